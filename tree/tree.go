// Package tree is things one behind the other in a balanced tree. The layers that keep a long row of something stand on it, and tell it by functions what it must know of their things; it stands on arena.
package tree

import (
	"iter"

	"rubric/arena"
)

// Size is how long something is, and how many marks it has. What a mark is, the tree is not told.
type Size struct{ Len, Marks int }

// Ways are what a tree is told of its things.
type Ways[T any] struct {
	Measure func(x T) Size
	Cut     func(x T, i int) (a, b T)      // the first i of x, and the others; asked of places within x alone
	Meld    func(x, y T) (both T, ok bool) // y behind x as one thing, if there may be one
}

// Tree is things one behind the other, none of which is without length, and no two neighbours of which may be melded. Places in it are numbered from 0 to its length; where it is cut, one that is less, or more, is taken for the first, or the last one.
type Tree[T any] struct {
	ways   Ways[T]
	nodes  *arena.Arena[node]
	things *arena.Arena[T]
	root   int
}

// New answers a tree without things.
func New[T any](ways Ways[T]) *Tree[T] {
	return &Tree[T]{ways: ways, nodes: arena.New[node](), things: arena.New[T](), root: nowhere}
}

// Size answers how long all things are together, and how many marks they have.
func (t *Tree[T]) Size() Size {
	return t.at(t.root).size
}

// Height answers how many nodes there are at most from the root down, both ends counted.
func (t *Tree[T]) Height() int {
	return t.at(t.root).height
}

// At answers the thing that place i is in, and which place of it that is; of a place that is none, also that is none.
func (t *Tree[T]) At(i int) (x T, in int) {
	x, ahead := t.seek(func(s Size) bool { return i < s.Len })
	return x, i - ahead.Len
}

// MarksAhead answers how many marks there are ahead of place i. It asks within how many of a thing's marks are ahead of a place of that thing.
func (t *Tree[T]) MarksAhead(i int, within func(x T, i int) int) int {
	x, ahead := t.seek(func(s Size) bool { return i < s.Len })
	return ahead.Marks + within(x, i-ahead.Len)
}

// MarkAt answers the place of the mark that has k marks ahead of it, of which there must be one. It asks within where in a thing its mark is that has so many of its marks ahead of it.
func (t *Tree[T]) MarkAt(k int, within func(x T, k int) (int, bool)) int {
	x, ahead := t.seek(func(s Size) bool { return k < s.Marks })
	i, _ := within(x, k-ahead.Marks)
	return ahead.Len + i
}

// Over tells all things from place i to place j, the first and the last one cut to what stands there. Whoever ranges over them does not change the tree meanwhile.
func (t *Tree[T]) Over(i, j int) iter.Seq[T] {
	return func(yield func(T) bool) {
		if from, to := t.place(i), t.place(j); from < to {
			t.tell(t.root, from, to, yield)
		}
	}
}

// Splice puts the things of l where those from place i to place j stood.
func (t *Tree[T]) Splice(i, j int, l []T) {
	from, to := t.place(i), t.place(j)
	ahead, rest := t.split(t.root, from)
	gone, behind := t.split(rest, to-from)
	t.drop(gone)
	t.root = t.join(t.join(ahead, t.row(l)), behind)
}

// Split answers another tree of all that stands behind place i, and is left with what stands ahead of it.
func (t *Tree[T]) Split(i int) *Tree[T] {
	ahead, behind := t.split(t.root, i)
	t.root = ahead
	o := New(t.ways)
	o.root = o.adopt(t, behind, map[int]int{})
	t.drop(behind)
	return o
}

// Concat puts the things of o behind those that are there. They stay in o, too, which may be the tree itself.
func (t *Tree[T]) Concat(o *Tree[T]) {
	if o == t {
		t.root = t.join(t.root, t.hold(t.root))
		return
	}
	t.root = t.join(t.root, t.adopt(o, o.root, map[int]int{}))
}

// Copy answers another tree of the same things.
func (t *Tree[T]) Copy() *Tree[T] {
	o := New(t.ways)
	o.root = o.adopt(t, t.root, map[int]int{})
	return o
}

// place answers the place that i is taken for.
func (t *Tree[T]) place(i int) int {
	return min(max(i, 0), t.Size().Len)
}
