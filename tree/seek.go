package tree

// seek answers the first thing with which, and with all ahead of it, so much is reached, else the last one, and how much stands ahead of that.
func (t *Tree[T]) seek(reached func(s Size) bool) (x T, ahead Size) {
	n := t.at(t.root)
	for n.isFork() {
		left := t.at(n.left)
		with := ahead.plus(left.size)
		if reached(with) {
			n = left
			continue
		}
		ahead = with
		n = t.at(n.right)
	}
	return t.thingOf(n), ahead
}

// tell tells the things of the node from its place i to its place j, and whether whoever is told goes on.
func (t *Tree[T]) tell(at, i, j int, yield func(T) bool) bool {
	n := t.at(at)
	switch {
	case j <= 0 || i >= n.size.Len:
		return true
	case !n.isFork():
		return yield(t.between(n, i, j))
	}
	middle := t.at(n.left).size.Len
	return t.tell(n.left, i, j, yield) && t.tell(n.right, i-middle, j-middle, yield)
}

// between answers what of a leaf's thing stands from its place i to its place j.
func (t *Tree[T]) between(leaf node, i, j int) T {
	x := t.thingOf(leaf)
	if j < leaf.size.Len {
		x, _ = t.ways.Cut(x, j)
	}
	if i > 0 {
		_, x = t.ways.Cut(x, i)
	}
	return x
}
