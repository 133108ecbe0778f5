package tree

// Whoever hands a node to a function of this file gives it up, but to those that only look at it; what is answered is held by whoever asked.

// link answers all of a, and all of b behind it. Of the two nodes of each fork none is higher than the other one by more than one; so much is kept up by going down the higher one of a and b to where the other one is about as high.
func (t *Tree[T]) link(a, b int) int {
	higher := t.at(a).height - t.at(b).height
	switch {
	case a == nowhere:
		return b
	case b == nowhere:
		return a
	case higher > 1:
		left, right := t.open(a)
		return t.balance(left, t.link(right, b))
	case higher < -1:
		left, right := t.open(b)
		return t.balance(t.link(a, left), right)
	}
	return t.fork(a, b)
}

// balance answers a fork of both, of which one may be higher than the other by two. Then the higher one is opened: its outer node stays outside, and if its inner node is the higher one, that is opened, too.
func (t *Tree[T]) balance(a, b int) int {
	higher := t.at(a).height - t.at(b).height
	switch {
	case higher > 1:
		outer, inner := t.open(a)
		if t.at(inner).height <= t.at(outer).height {
			return t.fork(outer, t.fork(inner, b))
		}
		left, right := t.open(inner)
		return t.fork(t.fork(outer, left), t.fork(right, b))
	case higher < -1:
		inner, outer := t.open(b)
		if t.at(inner).height <= t.at(outer).height {
			return t.fork(t.fork(a, inner), outer)
		}
		left, right := t.open(inner)
		return t.fork(t.fork(a, left), t.fork(right, outer))
	}
	return t.fork(a, b)
}

// join answers all of a, and all of b behind it, with a's last thing and b's first one melded, if they may be.
func (t *Tree[T]) join(a, b int) int {
	if a == nowhere || b == nowhere {
		return t.link(a, b)
	}
	both, ok := t.ways.Meld(t.thingOf(t.last(a)), t.thingOf(t.first(b)))
	if !ok {
		return t.link(a, b)
	}
	return t.link(t.link(t.butLast(a), t.leaf(both)), t.butFirst(b))
}

// split answers what of the node stands ahead of place i, and what stands behind it. A thing that is cut there leaves two pieces, of which each may be melded with what it stands beside.
func (t *Tree[T]) split(at, i int) (ahead, behind int) {
	n := t.at(at)
	switch {
	case i <= 0:
		return nowhere, at
	case i >= n.size.Len:
		return at, nowhere
	case !n.isFork():
		x, y := t.ways.Cut(t.thingOf(n), i)
		t.drop(at)
		return t.leaf(x), t.leaf(y)
	}
	left, right := t.open(at)
	middle := t.at(left).size.Len
	if i < middle {
		ahead, behind = t.split(left, i)
		return ahead, t.join(behind, right)
	}
	ahead, behind = t.split(right, i-middle)
	return t.join(left, ahead), behind
}

// row answers all things of l, one behind the other. It halves the list, so that nodes of about one height are joined.
func (t *Tree[T]) row(l []T) int {
	switch len(l) {
	case 0:
		return nowhere
	case 1:
		return t.leaf(l[0])
	}
	middle := len(l) / 2
	return t.join(t.row(l[:middle]), t.row(l[middle:]))
}

// butLast answers all of the node but its last leaf.
func (t *Tree[T]) butLast(i int) int {
	if !t.at(i).isFork() {
		t.drop(i)
		return nowhere
	}
	left, right := t.open(i)
	return t.link(left, t.butLast(right))
}

// butFirst answers all of the node but its first leaf.
func (t *Tree[T]) butFirst(i int) int {
	if !t.at(i).isFork() {
		t.drop(i)
		return nowhere
	}
	left, right := t.open(i)
	return t.link(t.butFirst(left), right)
}

// last answers the last leaf of the node, which is looked at alone.
func (t *Tree[T]) last(i int) node {
	n := t.at(i)
	for n.isFork() {
		n = t.at(n.right)
	}
	return n
}

// first answers the first leaf of the node, which is looked at alone.
func (t *Tree[T]) first(i int) node {
	n := t.at(i)
	for n.isFork() {
		n = t.at(n.left)
	}
	return n
}
