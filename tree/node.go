package tree

import "rubric/api"

// nowhere is the number of no node, and of no thing. It is taken for a zero node: no height, no length.
const nowhere = -1

// node is a leaf, which has a thing, or a fork of two nodes. It is never changed, but for how often it is held: by forks, as a root, and by the function that is about to make one of it. So one node may stand at several places of a tree, and a tree that is put behind itself takes hardly any room.
type node struct {
	held        int
	height      int // a leaf has 1
	size        Size
	left, right int // nowhere in a leaf
	thing       int // nowhere in a fork
}

func (n node) isFork() bool {
	return n.height > 1
}

func (s Size) plus(o Size) Size {
	return Size{s.Len + o.Len, s.Marks + o.Marks}
}

// at answers the node with that number.
func (t *Tree[T]) at(i int) node {
	n, _ := t.nodes.At(i)
	return n
}

// thingOf answers the thing of a leaf.
func (t *Tree[T]) thingOf(leaf node) T {
	x, _ := t.things.At(leaf.thing)
	return x
}

// leaf answers a new node that has the thing, or nowhere, if the thing is without length.
func (t *Tree[T]) leaf(x T) int {
	size := t.ways.Measure(x)
	if size.Len == 0 {
		return nowhere
	}
	return t.nodes.Take(node{held: 1, height: 1, size: size, left: nowhere, right: nowhere, thing: t.things.Take(x)})
}

// fork answers a new node of both, which it holds from now on in place of whoever asked.
func (t *Tree[T]) fork(left, right int) int {
	l, r := t.at(left), t.at(right)
	return t.nodes.Take(node{held: 1, height: max(l.height, r.height) + 1, size: l.size.plus(r.size), left: left, right: right, thing: nowhere})
}

// hold holds the node once more, and answers it.
func (t *Tree[T]) hold(i int) int {
	n := t.at(i)
	n.held++
	t.nodes.Put(i, n) // refused, if there is no such node
	return i
}

// drop holds the node once less. One that is held no more is gone, with all that it alone held.
func (t *Tree[T]) drop(i int) {
	n, e := t.nodes.At(i)
	if e != api.OK {
		return
	}
	n.held--
	if n.held > 0 {
		t.nodes.Put(i, n)
		return
	}
	t.nodes.Free(i)
	t.things.Free(n.thing)
	t.drop(n.left)
	t.drop(n.right)
}

// open answers both nodes of a fork, which whoever asked holds from now on in place of the fork.
func (t *Tree[T]) open(fork int) (left, right int) {
	n := t.at(fork)
	if n.held == 1 {
		t.nodes.Free(fork)
		return n.left, n.right
	}
	t.drop(fork)
	return t.hold(n.left), t.hold(n.right)
}

// adopt answers a node that has all that o's node has. What stands at several places there does so here, too: known are the nodes that stand for those that were come to already.
func (t *Tree[T]) adopt(o *Tree[T], i int, known map[int]int) int {
	n, e := o.nodes.At(i)
	if e != api.OK {
		return nowhere
	}
	if here, again := known[i]; again {
		return t.hold(here)
	}
	var here int
	if n.isFork() {
		here = t.fork(t.adopt(o, n.left, known), t.adopt(o, n.right, known))
	} else {
		here = t.leaf(o.thingOf(n))
	}
	if n.held > 1 { // none else is come to twice
		known[i] = here
	}
	return here
}
