package tree

import (
	"fmt"
	"math"
	"math/bits"
	"slices"
	"testing"
)

// The trees of these tests stand for a plain list of numbers. Things are short lists of them, whose marks are their zeros, or runs of alike ones, each of which is a mark itself.

type short struct{ l string } // a letter a number, so that no two things share memory

const mostShort = 4

func shortWays() Ways[short] {
	return Ways[short]{
		Measure: func(x short) Size {
			s := Size{Len: len(x.l)}
			for _, b := range []byte(x.l) {
				if b == '0' {
					s.Marks++
				}
			}
			return s
		},
		Cut: func(x short, i int) (short, short) {
			if i <= 0 || i >= len(x.l) {
				panic("a thing is cut where there is nothing to be cut")
			}
			return short{x.l[:i]}, short{x.l[i:]}
		},
		Meld: func(x, y short) (short, bool) {
			if len(x.l)+len(y.l) > mostShort {
				return short{"wrong"}, false
			}
			return short{x.l + y.l}, true
		},
	}
}

type run struct{ n, id int }

func runWays() Ways[run] {
	return Ways[run]{
		Measure: func(x run) Size { return Size{x.n, min(x.n, 1)} },
		Cut: func(x run, i int) (run, run) {
			if i <= 0 || i >= x.n {
				panic("a thing is cut where there is nothing to be cut")
			}
			return run{i, x.id}, run{x.n - i, x.id}
		},
		Meld: func(x, y run) (run, bool) {
			if x.id != y.id {
				return run{-1, -1}, false
			}
			return run{x.n + y.n, x.id}, true
		},
	}
}

// sort is what the tests ask of a sort of things.
type sort[T any] struct {
	ways   func() Ways[T]
	things func(l []int) []T // of which the list consists, in pieces that are not the greatest ones
	list   func(x T) []int
	marks  func(l []int) []int // where they are
	ahead  func(x T, i int) int
	markAt func(x T, k int) (int, bool)
}

func shorts() sort[short] {
	return sort[short]{
		ways: shortWays,
		things: func(l []int) []short {
			var row []short
			for i, n := range l {
				if i%5 == 3 {
					row = append(row, short{})
				}
				if i%7 < 3 || len(row) == 0 || len(row[len(row)-1].l) == mostShort {
					row = append(row, short{})
				}
				row[len(row)-1].l += string(rune('0' + n))
			}
			return append(row, short{})
		},
		list: func(x short) []int {
			var l []int
			for _, b := range []byte(x.l) {
				l = append(l, int(b-'0'))
			}
			return l
		},
		marks: func(l []int) []int {
			var at []int
			for i, n := range l {
				if n == 0 {
					at = append(at, i)
				}
			}
			return at
		},
		ahead: func(x short, i int) int {
			n := 0
			for _, b := range []byte(x.l[:i]) {
				if b == '0' {
					n++
				}
			}
			return n
		},
		markAt: func(x short, k int) (int, bool) {
			for i, b := range []byte(x.l) {
				if b != '0' {
					continue
				}
				if k == 0 {
					return i, true
				}
				k--
			}
			panic("a mark is sought where it is not")
		},
	}
}

func runs() sort[run] {
	return sort[run]{
		ways: runWays,
		things: func(l []int) []run {
			var row []run
			for i, n := range l {
				if i%5 == 3 {
					row = append(row, run{0, 7})
				}
				if i%4 > 0 && len(row) > 0 && row[len(row)-1].id == n {
					row[len(row)-1].n++
				} else {
					row = append(row, run{1, n})
				}
			}
			return append(row, run{0, 8})
		},
		list: func(x run) []int { return slices.Repeat([]int{x.id}, x.n) },
		marks: func(l []int) []int {
			var at []int
			for i, n := range l {
				if i == 0 || l[i-1] != n {
					at = append(at, i)
				}
			}
			return at
		},
		ahead: func(x run, i int) int { return min(i, 1) },
		markAt: func(x run, k int) (int, bool) {
			if k != 0 {
				panic("a mark is sought where it is not")
			}
			return 0, true
		},
	}
}

// known is a tree with the list that it stands for.
type known[T any] struct {
	of sort[T]
	t  *Tree[T]
	l  []int
}

func of[T any](s sort[T], l []int) *known[T] {
	k := &known[T]{of: s, t: New(s.ways())}
	k.splice(0, 0, l)
	return k
}

func (k *known[T]) splice(i, j int, l []int) {
	k.t.Splice(i, j, k.of.things(l))
	i = min(max(i, 0), len(k.l))
	j = min(max(j, i), len(k.l))
	k.l = slices.Concat(k.l[:i], l, k.l[j:])
}

func (k *known[T]) split(i int) *known[T] {
	o := &known[T]{of: k.of, t: k.t.Split(i)}
	i = min(max(i, 0), len(k.l))
	o.l = slices.Clone(k.l[i:])
	k.l = slices.Clone(k.l[:i])
	return o
}

func (k *known[T]) concat(o *known[T]) {
	k.t.Concat(o.t)
	k.l = slices.Concat(k.l, o.l)
}

func (k *known[T]) copy() *known[T] {
	return &known[T]{of: k.of, t: k.t.Copy(), l: slices.Clone(k.l)}
}

// check asks the tree all that it tells, and holds its nodes against what they should be.
func (k *known[T]) check(t *testing.T, what string) {
	t.Helper()
	k.checkNodes(t, what)
	if why := k.wrong(); why != "" {
		t.Fatalf("%s, of %d: %s", what, k.l, why)
	}
}

// checkNodes holds the tree's nodes against what they should be, and its things against the list.
func (k *known[T]) checkNodes(t *testing.T, what string) {
	t.Helper()
	if why := k.wrongNodes(); why != "" {
		t.Fatalf("%s, of %d: %s", what, k.l, why)
	}
	if why := k.wrongThings(); why != "" {
		t.Fatalf("%s, of %d: %s", what, k.l, why)
	}
}

func (k *known[T]) wrong() string {
	marks := k.of.marks(k.l)
	if s := k.t.Size(); s != (Size{len(k.l), len(marks)}) {
		return fmt.Sprintf("Size %v, with %d marks", s, len(marks))
	}
	if h, most := k.t.Height(), 2*bits.Len(uint(len(k.l))); h > most || (h == 0) != (len(k.l) == 0) {
		return fmt.Sprintf("Height %d, at most %d", h, most)
	}
	for i, n := range k.l {
		x, in := k.t.At(i)
		if l := k.of.list(x); in < 0 || in >= len(l) || l[in] != n {
			return fmt.Sprintf("At(%d) %v, %d", i, x, in)
		}
	}
	for _, i := range []int{math.MinInt, -1, len(k.l), len(k.l) + 1, math.MaxInt} {
		if x, in := k.t.At(i); in >= 0 && in < len(k.of.list(x)) {
			return fmt.Sprintf("At(%d) %v, %d", i, x, in)
		}
	}
	for i := 0; i <= len(k.l); i++ {
		ahead, _ := slices.BinarySearch(marks, i)
		if len(k.l) == 0 {
			continue
		}
		if n := k.t.MarksAhead(i, k.of.ahead); n != ahead {
			return fmt.Sprintf("MarksAhead(%d) %d, want %d", i, n, ahead)
		}
	}
	for m, at := range marks {
		if i := k.t.MarkAt(m, k.of.markAt); i != at {
			return fmt.Sprintf("MarkAt(%d) %d, want %d", m, i, at)
		}
	}
	return k.wrongOver()
}

func (k *known[T]) wrongOver() string {
	n := len(k.l)
	for _, i := range []int{math.MinInt, -1, 0, 1, n / 3, n / 2, n - 1, n, n + 1, math.MaxInt} {
		for _, j := range []int{math.MinInt, -1, 0, 1, n / 3, n/2 + 1, n - 1, n, n + 1, math.MaxInt} {
			var l []int
			for x := range k.t.Over(i, j) {
				piece := k.of.list(x)
				if len(piece) == 0 {
					return fmt.Sprintf("Over(%d, %d) tells %v", i, j, x)
				}
				l = append(l, piece...)
			}
			from := min(max(i, 0), n)
			if want := k.l[from:min(max(j, from), n)]; !slices.Equal(l, want) {
				return fmt.Sprintf("Over(%d, %d) %d, want %d", i, j, l, want)
			}
		}
	}
	return k.wrongBreak()
}

func (k *known[T]) wrongBreak() string {
	all := 0
	for range k.t.Over(0, len(k.l)) {
		all++
	}
	for most := 1; most <= min(all, 9); most++ {
		told := 0
		for range k.t.Over(0, len(k.l)) {
			if told++; told == most {
				break
			}
		}
		if told != most {
			return fmt.Sprintf("broken off behind %d things, but told %d", most, told)
		}
	}
	return ""
}

// wrongNodes goes through all nodes from the root down.
func (k *known[T]) wrongNodes() string {
	t := k.t
	held := map[int]int{}
	leaves := map[int]bool{}
	var wrong string
	var walk func(i int)
	walk = func(i int) {
		if i == nowhere {
			return
		}
		if held[i]++; held[i] > 1 {
			return
		}
		n, e := t.nodes.At(i)
		switch {
		case e != 0:
			wrong = "a node is not there"
		case n.height < 1:
			wrong = "a node has no height"
		case n.height == 1:
			if n.left != nowhere || n.right != nowhere || leaves[n.thing] {
				wrong = "a leaf has nodes, or another one's thing"
			}
			leaves[n.thing] = true
			if x, e := t.things.At(n.thing); e != 0 || n.size != t.ways.Measure(x) || n.size.Len == 0 {
				wrong = "a leaf has no thing, none with length, or is told its size wrong"
			}
		default:
			l, r := t.at(n.left), t.at(n.right)
			if n.thing != nowhere || n.left == nowhere || n.right == nowhere {
				wrong = "a fork has a thing, or lacks a node"
			}
			if n.height != 1+max(l.height, r.height) || l.height-r.height > 1 || r.height-l.height > 1 {
				wrong = fmt.Sprintf("a fork of height %d has nodes of %d and %d", n.height, l.height, r.height)
			}
			if n.size != (Size{l.size.Len + r.size.Len, l.size.Marks + r.size.Marks}) {
				wrong = "a fork's size is not that of its nodes"
			}
			walk(n.left)
			walk(n.right)
		}
	}
	walk(t.root)
	if wrong != "" {
		return wrong
	}
	if t.nodes.Len() != len(held) || t.things.Len() != len(leaves) {
		return fmt.Sprintf("%d nodes and %d things are kept, %d and %d are of use", t.nodes.Len(), t.things.Len(), len(held), len(leaves))
	}
	for i, times := range held {
		if n := t.at(i); n.held != times {
			return fmt.Sprintf("a node is held %d times, but counts %d", times, n.held)
		}
	}
	return ""
}

func (k *known[T]) wrongThings() string {
	things := slices.Collect(k.t.Over(0, len(k.l)))
	var l []int
	for _, x := range things {
		l = append(l, k.of.list(x)...)
	}
	if !slices.Equal(l, k.l) {
		return fmt.Sprintf("its things are %d", l)
	}
	for i := 1; i < len(things); i++ {
		if _, ok := k.t.ways.Meld(things[i-1], things[i]); ok {
			return fmt.Sprintf("%v and %v stand side by side", things[i-1], things[i])
		}
	}
	return ""
}

// rule is a row of numbers that looks like chance and is the same at each run.
type rule uint64

func (r *rule) next(n int) int {
	*r = *r*6364136223846793005 + 1442695040888963407
	return int(uint64(*r) >> 33 % uint64(n))
}

func (r *rule) list(n int) []int {
	l := make([]int, n)
	for i := range l {
		l[i] = r.next(3)
	}
	return l
}

// each runs a test for both sorts of things.
func each(t *testing.T, ofShorts func(t *testing.T, s sort[short]), ofRuns func(t *testing.T, s sort[run])) {
	t.Run("shorts", func(t *testing.T) { ofShorts(t, shorts()) })
	t.Run("runs", func(t *testing.T) { ofRuns(t, runs()) })
}

func TestBlank(t *testing.T) { each(t, blank[short], blank[run]) }

func blank[T any](t *testing.T, s sort[T]) {
	k := of(s, nil)
	k.check(t, "blank")
	k.concat(k)
	k.check(t, "blank, behind itself")
	for _, i := range []int{math.MinInt, -1, 0, 1, math.MaxInt} {
		o := k.split(i)
		k.check(t, "blank, split")
		o.check(t, "split off a blank one")
		o.concat(k.copy())
		o.check(t, "two blank ones")
	}
	k.concat(of(s, []int{1, 0, 2}))
	k.check(t, "blank, and something behind it")
}

func TestAllLengths(t *testing.T) { each(t, allLengths[short], allLengths[run]) }

func allLengths[T any](t *testing.T, s sort[T]) {
	by := rule(1)
	for n := range 150 {
		for _, l := range [][]int{make([]int, n), slices.Repeat([]int{1}, n), by.list(n), by.list(n)} {
			k := of(s, l)
			k.check(t, "made at once")
			k.concat(k)
			k.check(t, "behind itself")
			k.splice(0, len(k.l), nil)
			k.check(t, "emptied")
		}
	}
}

func TestOneByOne(t *testing.T) { each(t, oneByOne[short], oneByOne[run]) }

func oneByOne[T any](t *testing.T, s sort[T]) {
	places := []func(n int) int{
		func(n int) int { return 0 },
		func(n int) int { return n },
		func(n int) int { return n / 2 },
		func(n int) int { return n / 3 },
		func(n int) int { return min(1, n) },
		func(n int) int { return max(0, n-1) },
		func(n int) int { return n * 7 % (n + 1) },
	}
	for _, place := range places {
		for _, id := range []func(i int) int{func(i int) int { return i % 2 }, func(i int) int { return i % 3 }, func(i int) int { return i / 5 % 2 }} {
			k := of(s, nil)
			for i := range 120 {
				k.splice(place(i), place(i), []int{id(i)})
				k.check(t, "put in one by one")
			}
			for n := len(k.l); n > 0; n-- {
				i := min(place(n), n-1)
				k.splice(i, i+1, nil)
				k.check(t, "taken out one by one")
			}
		}
	}
}

func TestAllPlaces(t *testing.T) { each(t, allPlaces[short], allPlaces[run]) }

func allPlaces[T any](t *testing.T, s sort[T]) {
	by := rule(2)
	for _, n := range []int{1, 2, 4, 5, 9, 23, 40} {
		whole := of(s, by.list(n))
		for i := -2; i <= n+2; i++ {
			k := whole.copy()
			o := k.split(i)
			k.check(t, "split")
			o.check(t, "split off")
			k.concat(o)
			k.check(t, "split and put behind again")
			o.check(t, "put behind")
			for j := -2; j <= n+2; j++ {
				for _, in := range []int{0, 1, 3, 11} {
					k := whole.copy()
					k.splice(i, j, by.list(in))
					k.check(t, fmt.Sprintf("Splice(%d, %d) of %d", i, j, in))
				}
			}
		}
		whole.check(t, "copied from")
	}
}

func TestFarPlaces(t *testing.T) { each(t, farPlaces[short], farPlaces[run]) }

func farPlaces[T any](t *testing.T, s sort[T]) {
	for _, i := range []int{math.MinInt, math.MinInt32, math.MaxInt32, math.MaxInt} {
		k := of(s, []int{0, 1, 2, 0, 1, 2, 0})
		k.splice(i, i, []int{1, 1, 1, 1, 1})
		k.check(t, "put in far away")
		k.split(i).check(t, "split off far away")
		k.check(t, "split far away")
	}
	k := of(s, []int{0, 1, 2, 0, 1, 2, 0})
	k.splice(0, math.MaxInt, []int{1})
	k.check(t, "all taken out")
	k.splice(math.MinInt, math.MaxInt, []int{2, 1})
	k.check(t, "all taken out")
}

func TestDoubled(t *testing.T) { each(t, doubled[short], doubled[run]) }

func doubled[T any](t *testing.T, s sort[T]) {
	for _, l := range [][]int{{0}, {1, 0}, {0, 1, 2, 1, 0}, {1, 2, 2, 2, 0, 1}} {
		k := of(s, l)
		for range 6 {
			k.concat(k)
			k.check(t, "doubled")
			o := k.copy()
			o.splice(len(l)/2, len(l)/2, []int{2})
			o.check(t, "doubled, copied and changed")
			o.splice(1, len(o.l)-1, nil)
			o.check(t, "doubled, copied and nearly emptied")
			k.check(t, "doubled, and a copy changed")
			k.split(len(k.l)/3).check(t, "split off what was doubled")
			k.check(t, "doubled and split")
		}
	}
}

// What is doubled again and again takes room for each doubling once.
func TestDoubledTakesNoRoom(t *testing.T) {
	k := New(shortWays())
	k.Splice(0, 0, []short{{"0120"}, {"21"}})
	for range 40 {
		k.Concat(k)
	}
	if s := k.Size(); s != (Size{6 << 40, 2 << 40}) {
		t.Fatalf("Size %v", s)
	}
	for _, o := range []*Tree[short]{k, k.Copy(), k.Split(3 << 40), k} {
		if n := o.nodes.Len(); n > 2000 {
			t.Fatalf("%d nodes", n)
		}
		if h := o.Height(); h < 40 || h > 62 {
			t.Fatalf("Height %d", h)
		}
	}
	k.Splice(0, 3<<40, nil)
	if k.nodes.Len() != 0 || k.things.Len() != 0 {
		t.Fatalf("emptied, and %d nodes and %d things are kept", k.nodes.Len(), k.things.Len())
	}
}

func TestLongRows(t *testing.T) { each(t, longRows[short], longRows[run]) }

func longRows[T any](t *testing.T, s sort[T]) {
	for first := range 12 {
		by := rule(first)
		pool := []*known[T]{of(s, nil), of(s, by.list(9)), of(s, by.list(70))}
		for step := range 1200 {
			which := by.next(len(pool))
			k, o := pool[which], pool[by.next(len(pool))]
			i := by.next(len(k.l) + 1)
			j := i + by.next(len(k.l)-i+1)
			switch by.next(8) {
			case 0:
				pool[by.next(len(pool))] = k.split(i)
			case 1:
				if len(k.l)+len(o.l) < 250 {
					k.concat(o)
				}
			case 2:
				pool[by.next(len(pool))] = o.copy()
			case 3:
				k.splice(i, j, nil)
			case 4:
				k.splice(i, j, by.list(by.next(30)))
			default:
				k.splice(i, min(j, i+by.next(4)), by.list(by.next(6)))
			}
			for n, p := range pool {
				what := fmt.Sprintf("row %d, step %d, tree %d", first, step, n)
				p.checkNodes(t, what)
				if step%20 == n {
					p.check(t, what)
				}
			}
		}
	}
}

// What is split off, copied or put behind goes its own way.
func TestOwnWays(t *testing.T) { each(t, ownWays[short], ownWays[run]) }

func ownWays[T any](t *testing.T, s sort[T]) {
	by := rule(5)
	k := of(s, by.list(60))
	o := k.split(31)
	c := o.copy()
	k.concat(c)
	k.concat(k)
	all := []*known[T]{k, o, c}
	for step := range 200 {
		p := all[step%3]
		i := by.next(len(p.l) + 1)
		p.splice(i, i+by.next(3), by.list(by.next(4)))
		for _, q := range all {
			q.check(t, "gone its own way")
		}
	}
}

// A list that was handed in is not kept, nor written to.
func TestHandedInIsNotKept(t *testing.T) {
	l := []run{{3, 1}, {2, 1}, {0, 5}, {4, 2}, {1, 2}, {2, 1}}
	was := slices.Clone(l)
	k := New(runWays())
	k.Splice(0, 0, l)
	if !slices.Equal(l, was) {
		t.Fatalf("written to: %v", l)
	}
	clear(l)
	if got, want := slices.Collect(k.Over(0, 12)), []run{{5, 1}, {5, 2}, {2, 1}}; !slices.Equal(got, want) {
		t.Fatalf("%v, want %v", got, want)
	}
}
