package arena

import (
	"fmt"
	"iter"
	"math"
	"runtime"
	"slices"
	"strconv"
	"strings"
	"testing"
	"weak"

	"rubric/api"
)

// The model: the chapter's words, said of a list of what is taken, which is gone over from end to end, and of a list of what was freed.

type entry struct{ number, thing int }

type model struct {
	taken  []entry
	freed  []int // and not taken since, in the order in which they were freed
	places int
}

func (m *model) of(i int) int {
	return slices.IndexFunc(m.taken, func(n entry) bool { return n.number == i })
}

func (m *model) take(x int) int {
	i := m.places
	if n := len(m.freed); n > 0 {
		i = m.freed[n-1]
		m.freed = slices.Delete(m.freed, n-1, n)
	} else {
		m.places++
	}
	m.taken = append(m.taken, entry{i, x})
	return i
}

func (m *model) free(i int) api.Errno {
	k := m.of(i)
	if k < 0 {
		return api.ErrRange
	}
	m.taken = slices.Delete(m.taken, k, k+1)
	m.freed = append(m.freed, i)
	return api.OK
}

func (m *model) at(i int) (int, api.Errno) {
	k := m.of(i)
	if k < 0 {
		return 0, api.ErrRange
	}
	return m.taken[k].thing, api.OK
}

func (m *model) put(i, x int) api.Errno {
	k := m.of(i)
	if k < 0 {
		return api.ErrRange
	}
	m.taken[k].thing = x
	return api.OK
}

func (m *model) all() []entry {
	return slices.SortedFunc(slices.Values(m.taken), func(a, b entry) int { return a.number - b.number })
}

// Sorts of things. A test says which thing it means by a number: 0 is the zero thing of a sort, -1 one that the tests never put in.

const foreign = -1

// numbered is an arena whose things are told by their numbers; one of whole numbers is such a one itself.
type numbered interface {
	Take(n int) int
	Free(i int) api.Errno
	At(i int) (int, api.Errno)
	Put(i, n int) api.Errno
	Len() int
	Cap() int
	All() iter.Seq2[int, int]
}

// of is an arena of things of any type, with what makes things of numbers, and numbers of things.
type of[T any] struct {
	*Arena[T]
	thing  func(n int) T
	number func(x T) int
}

func (o of[T]) Take(n int) int         { return o.Arena.Take(o.thing(n)) }
func (o of[T]) Put(i, n int) api.Errno { return o.Arena.Put(i, o.thing(n)) }

func (o of[T]) At(i int) (int, api.Errno) {
	x, e := o.Arena.At(i)
	return o.number(x), e
}

func (o of[T]) All() iter.Seq2[int, int] {
	all := o.Arena.All()
	return func(yield func(int, int) bool) {
		all(func(i int, x T) bool { return yield(i, o.number(x)) })
	}
}

// sort is a type of things, with its arenas: a new one, a zero one, and one that is not there.
type sort struct {
	name               string
	made, zero, absent func() numbered
}

func sortOf[T any](name string, thing func(n int) T, number func(x T) int) sort {
	wrapped := func(a *Arena[T]) numbered { return of[T]{a, thing, number} }
	return sort{
		name:   name,
		made:   func() numbered { return wrapped(New[T]()) },
		zero:   func() numbered { return wrapped(&Arena[T]{}) },
		absent: func() numbered { return wrapped(nil) },
	}
}

func wholes() sort {
	return sort{
		name:   "whole numbers",
		made:   func() numbered { return New[int]() },
		zero:   func() numbered { return new(Arena[int]) },
		absent: func() numbered { return (*Arena[int])(nil) },
	}
}

type item struct {
	n     int
	text  string
	more  [3]int64
	inner *item
}

func itemOf(n int) item {
	if n == 0 {
		return item{}
	}
	return item{n: n, text: strings.Repeat("b", n%40), more: [3]int64{int64(n), int64(-n), math.MinInt64}, inner: &item{n: -n}}
}

func numberOfItem(x item) int {
	if x.n == 0 && x == (item{}) {
		return 0
	}
	if w := itemOf(x.n); x.n != 0 && x.text == w.text && x.more == w.more && x.inner != nil && *x.inner == *w.inner {
		return x.n
	}
	return foreign
}

// pointers tell things by where they point to, not by what stands there.
func pointers() sort {
	var table []*item
	thing := func(n int) *item {
		for len(table) <= n {
			table = append(table, &item{n: 7})
		}
		table[0] = nil
		return table[n]
	}
	return sortOf("pointers", thing, func(x *item) int {
		if x == nil {
			return 0
		}
		return slices.Index(table, x)
	})
}

// lists tell things by where they begin, how long they are, and how much room they have.
func lists() sort {
	var table [][]int
	thing := func(n int) []int {
		for i := len(table); i <= n; i++ {
			table = append(table, append(make([]int, 0, i+3), make([]int, 1+i%3)...))
		}
		table[0] = nil
		return table[n]
	}
	return sortOf("lists", thing, func(x []int) int {
		if x == nil {
			return 0
		}
		return slices.IndexFunc(table, func(o []int) bool {
			return len(o) > 0 && len(o) == len(x) && cap(o) == cap(x) && &o[0] == &x[0]
		})
	})
}

func arrayOf(n int) [40]int32 {
	var x [40]int32
	for i := range x {
		x[i] = int32(n * (i + 1))
	}
	return x
}

func faceOf(n int) any {
	switch {
	case n == 0:
		return nil
	case n%3 == 1:
		return n
	case n%3 == 2:
		return strconv.Itoa(n)
	}
	return []int{n} // no two of these may be held against each other
}

func numberOfFace(x any) int {
	switch v := x.(type) {
	case nil:
		return 0
	case int:
		return v
	case string:
		n, _ := strconv.Atoi(v)
		return n
	case []int:
		return v[0]
	}
	return foreign
}

func mapOf(n int) map[string]int {
	if n == 0 {
		return nil
	}
	return map[string]int{"n": n}
}

func functionOf(n int) func() int {
	if n == 0 {
		return nil
	}
	return func() int { return n }
}

func numberOfFunction(x func() int) int {
	if x == nil {
		return 0
	}
	return x()
}

// arenaOf is an arena as a thing, with so many taken.
func arenaOf(n int) *Arena[string] {
	if n == 0 {
		return nil
	}
	a := New[string]()
	for range n {
		a.Take("a")
	}
	return a
}

func sorts() []sort {
	return []sort{
		wholes(),
		pointers(),
		lists(),
		sortOf("bytes", func(n int) byte { return byte(n) }, func(x byte) int { return int(x) }),
		sortOf("texts", func(n int) string { return strings.Repeat("a", n) }, func(x string) int { return len(x) }),
		sortOf("structs", itemOf, numberOfItem),
		sortOf("floats", func(n int) float64 { return float64(n) / 4 }, func(x float64) int { return int(x * 4) }),
		sortOf("arrays", arrayOf, func(x [40]int32) int {
			if n := int(x[0]); x == arrayOf(n) {
				return n
			}
			return foreign
		}),
		sortOf("interfaces", faceOf, numberOfFace),
		sortOf("maps", mapOf, func(x map[string]int) int { return x["n"] }),
		sortOf("functions", functionOf, numberOfFunction),
		sortOf("arenas", arenaOf, (*Arena[string]).Len),
	}
}

// each runs a test for a new arena, and for a zero one, of each sort.
func each(t *testing.T, test func(t *testing.T, made func() numbered)) {
	for _, s := range sorts() {
		t.Run("new/"+s.name, func(t *testing.T) { test(t, s.made) })
		t.Run("zero/"+s.name, func(t *testing.T) { test(t, s.zero) })
	}
}

// Checks. Each test ends at its first fault: the rows are long, and what is wrong with one is wrong with many.

func checkTake(t *testing.T, a numbered, x, want int) {
	t.Helper()
	if i := a.Take(x); i != want {
		t.Fatalf("Take of %d: %d; want %d", x, i, want)
	}
}

func checkErrno(t *testing.T, what string, i int, e, want api.Errno) {
	t.Helper()
	if e != want {
		t.Fatalf("%s of %d: %d; want %d", what, i, e, want)
	}
}

func checkFree(t *testing.T, a numbered, places ...int) {
	t.Helper()
	for _, i := range places {
		checkErrno(t, "Free", i, a.Free(i), api.OK)
	}
}

func checkAt(t *testing.T, a numbered, i, want int) {
	t.Helper()
	if x, e := a.At(i); x != want || e != api.OK {
		t.Fatalf("At of %d: %d, %d; want %d, OK", i, x, e, want)
	}
}

func checkNone(t *testing.T, a numbered, i int, want api.Errno) {
	t.Helper()
	if x, e := a.At(i); x != 0 || e != want {
		t.Fatalf("At of %d: %d, %d; want the zero thing, %d", i, x, e, want)
	}
}

func checkCounts(t *testing.T, a numbered, length, places int) {
	t.Helper()
	if n, c := a.Len(), a.Cap(); n != length || c != places {
		t.Fatalf("Len, Cap: %d, %d; want %d, %d", n, c, length, places)
	}
}

func told(all iter.Seq2[int, int]) []entry {
	var l []entry
	for i, x := range all {
		l = append(l, entry{i, x})
	}
	return l
}

func checkAll(t *testing.T, all iter.Seq2[int, int], want ...entry) {
	t.Helper()
	if l := told(all); !slices.Equal(l, want) {
		t.Fatalf("All: %v; want %v", l, want)
	}
}

// checkSame holds all that an arena tells against the model, of all numbers about those that it has, too.
func checkSame(t *testing.T, a numbered, m *model) {
	t.Helper()
	checkCounts(t, a, len(m.taken), m.places)
	checkAll(t, a.All(), m.all()...)
	for i := -2; i < m.places+2; i++ {
		x, e := a.At(i)
		if want, f := m.at(i); x != want || e != f {
			t.Fatalf("At of %d: %d, %d; want %d, %d", i, x, e, want, f)
		}
	}
}

// A step is a call that changes an arena.
type step struct {
	what  string
	place int
	thing int
}

// do takes the step on the arena and on the model, and holds what both answer against each other.
func (s step) do(t *testing.T, a numbered, m *model) {
	t.Helper()
	switch s.what {
	case "Take":
		checkTake(t, a, s.thing, m.take(s.thing))
	case "Free":
		checkErrno(t, s.what, s.place, a.Free(s.place), m.free(s.place))
	case "Put":
		checkErrno(t, s.what, s.place, a.Put(s.place, s.thing), m.put(s.place, s.thing))
	}
}

// filled is an arena of n places, each with its number and one more as its thing, and its model.
func filled(t *testing.T, made func() numbered, n int) (numbered, *model) {
	t.Helper()
	a, m := made(), &model{}
	for i := range n {
		step{what: "Take", thing: i + 1}.do(t, a, m)
	}
	return a, m
}

// orders are all orders of the numbers below n.
func orders(n int) [][]int {
	if n == 0 {
		return [][]int{nil}
	}
	var l [][]int
	for _, o := range orders(n - 1) {
		for at := range n {
			l = append(l, slices.Insert(slices.Clone(o), at, n-1))
		}
	}
	return l
}

// The examples

func TestExamples(t *testing.T) {
	x := New[string]()
	take := func(s string, want int) {
		t.Helper()
		if i := x.Take(s); i != want {
			t.Fatalf("Take of %s: %d; want %d", s, i, want)
		}
	}
	take("a", 0)
	take("b", 1)
	take("c", 2)
	checkErrno(t, "Free", 0, x.Free(0), api.OK)
	checkErrno(t, "Free", 2, x.Free(2), api.OK)
	take("d", 2)
	take("e", 0)
	take("f", 3)
	if s, e := x.At(5); s != "" || e != api.ErrRange {
		t.Fatalf("At of 5: %q, %d; want a zero text, ErrRange", s, e)
	}
	checkErrno(t, "Free", 9, x.Free(9), api.ErrRange)
	var l []string
	for i, s := range x.All() {
		l = append(l, strconv.Itoa(i)+s)
	}
	if want := []string{"0e", "1b", "2d", "3f"}; !slices.Equal(l, want) {
		t.Fatalf("All: %v; want %v", l, want)
	}
}

// TestSortsOfThings: a thing's number is told of itself, and of no other one, so that the other tests see what is told.
func TestSortsOfThings(t *testing.T) {
	each(t, func(t *testing.T, made func() numbered) {
		a := made()
		for n := range 100 {
			a.Take(n)
		}
		for n := range 100 {
			checkAt(t, a, n, n)
		}
	})
}

// P8.1

func TestNewHasNoPlaces(t *testing.T) {
	each(t, func(t *testing.T, made func() numbered) {
		a := made()
		checkSame(t, a, &model{})
		for _, i := range []int{0, 1, -1, math.MaxInt, math.MinInt} {
			checkNone(t, a, i, api.ErrRange)
			checkErrno(t, "Free", i, a.Free(i), api.ErrRange)
			checkErrno(t, "Put", i, a.Put(i, 1), api.ErrRange)
		}
		checkSame(t, a, &model{})
		checkTake(t, a, 5, 0)
		checkSame(t, a, &model{taken: []entry{{0, 5}}, places: 1})
	})
}

// TestNewIsAnotherOne: what is done with an arena is not seen in another one of the same type, nor of others.
func TestNewIsAnotherOne(t *testing.T) {
	each(t, func(t *testing.T, made func() numbered) {
		a, m := filled(t, made, 5)
		b, o := filled(t, made, 0)
		checkSame(t, b, o)
		step{what: "Free", place: 3}.do(t, a, m)
		step{what: "Free", place: 3}.do(t, b, o)
		step{what: "Take", thing: 20}.do(t, b, o)
		step{what: "Take", thing: 21}.do(t, b, o)
		step{what: "Free", place: 0}.do(t, b, o)
		step{what: "Take", thing: 22}.do(t, a, m)
		step{what: "Put", place: 1, thing: 23}.do(t, a, m)
		checkSame(t, a, m)
		checkSame(t, b, o)
	})
}

func TestArenasSideBySide(t *testing.T) {
	var arenas []numbered
	var models []*model
	for _, s := range slices.Concat(sorts(), sorts()) {
		arenas = append(arenas, s.made(), s.zero())
		models = append(models, &model{}, &model{})
	}
	for round := range 12 {
		for k, a := range arenas {
			step{what: "Take", thing: 1 + (round*len(arenas)+k)%200}.do(t, a, models[k])
			if round%3 == 2 {
				step{what: "Free", place: (round + k) % 4}.do(t, a, models[k])
			}
			step{what: "Put", place: k % 5, thing: 1 + (round+k)%200}.do(t, a, models[k])
		}
	}
	for k, a := range arenas {
		checkSame(t, a, models[k])
	}
}

func TestFirstPlaceIsZeroAndNewOnesFollow(t *testing.T) {
	each(t, func(t *testing.T, made func() numbered) {
		a := made()
		for i := range 100 {
			checkCounts(t, a, i, i)
			checkNone(t, a, i, api.ErrRange)
			checkTake(t, a, i+1, i)
			checkAt(t, a, i, i+1)
		}
		for i := range 100 {
			checkAt(t, a, i, i+1)
		}
	})
}

// TestThingsThatAreAlikeHavePlacesOfTheirOwn: the zero thing is one as others are, and a thing may be taken more than once.
func TestThingsThatAreAlikeHavePlacesOfTheirOwn(t *testing.T) {
	each(t, func(t *testing.T, made func() numbered) {
		a := made()
		for i, x := range []int{0, 0, 5, 5, 0, 5} {
			checkTake(t, a, x, i)
		}
		checkAll(t, a.All(), entry{0, 0}, entry{1, 0}, entry{2, 5}, entry{3, 5}, entry{4, 0}, entry{5, 5})
		checkFree(t, a, 0, 2)
		checkErrno(t, "Put", 5, a.Put(5, 0), api.OK)
		checkAll(t, a.All(), entry{1, 0}, entry{3, 5}, entry{4, 0}, entry{5, 0})
		checkCounts(t, a, 4, 6)
		checkTake(t, a, 0, 2)
		checkErrno(t, "Put", 2, a.Put(2, 0), api.OK)
		checkTake(t, a, 0, 0)
		checkTake(t, a, 0, 6)
		checkCounts(t, a, 7, 7)
		checkFree(t, a, 0, 2)
	})
}

// TestTakeOfWhatWasFreedLast: whichever of five places are freed, in whatever order, the one that was freed last is taken first, and behind all of them come new ones.
func TestTakeOfWhatWasFreedLast(t *testing.T) {
	each(t, func(t *testing.T, made func() numbered) {
		for _, order := range orders(5) {
			for n := range len(order) + 1 {
				a, m := filled(t, made, 5)
				checkFree(t, a, order[:n]...)
				for _, i := range order[:n] {
					m.free(i)
				}
				checkSame(t, a, m)
				for k := n - 1; k >= 0; k-- {
					checkTake(t, a, 10+k, order[k])
				}
				checkCounts(t, a, 5, 5)
				checkTake(t, a, 20, 5)
				checkTake(t, a, 21, 6)
				for k, i := range order[:n] {
					checkAt(t, a, i, 10+k)
				}
				for _, i := range order[n:] {
					checkAt(t, a, i, i+1)
				}
			}
		}
	})
}

// TestTakeBetweenFrees: what was taken since is not taken again, and what was freed ahead of it is next.
func TestTakeBetweenFrees(t *testing.T) {
	each(t, func(t *testing.T, made func() numbered) {
		a, _ := filled(t, made, 6)
		checkFree(t, a, 1, 4)
		checkTake(t, a, 10, 4)
		checkFree(t, a, 2, 5)
		checkTake(t, a, 11, 5)
		checkTake(t, a, 12, 2)
		checkTake(t, a, 13, 1)
		checkTake(t, a, 14, 6)
		checkFree(t, a, 6, 0)
		checkTake(t, a, 15, 0)
		checkFree(t, a, 0)
		checkTake(t, a, 16, 0)
		checkTake(t, a, 17, 6)
		checkTake(t, a, 18, 7)
		checkAll(t, a.All(), entry{0, 16}, entry{1, 13}, entry{2, 12}, entry{3, 4}, entry{4, 10}, entry{5, 11}, entry{6, 17}, entry{7, 18})
	})
}

func TestFreedTakenAndFreedAgain(t *testing.T) {
	each(t, func(t *testing.T, made func() numbered) {
		a, _ := filled(t, made, 3)
		for round := range 50 {
			checkFree(t, a, 1)
			checkCounts(t, a, 2, 3)
			checkNone(t, a, 1, api.ErrRange)
			checkTake(t, a, 10+round, 1)
			checkCounts(t, a, 3, 3)
			checkAt(t, a, 1, 10+round)
		}
		checkAll(t, a.All(), entry{0, 1}, entry{1, 59}, entry{2, 3})
		checkTake(t, a, 4, 3)
	})
}

func TestAllFreedAndAllTakenAgain(t *testing.T) {
	each(t, func(t *testing.T, made func() numbered) {
		for _, order := range orders(4) {
			a, m := filled(t, made, 4)
			for round := range 4 {
				for _, i := range order {
					step{what: "Free", place: i}.do(t, a, m)
				}
				checkCounts(t, a, 0, 4)
				checkAll(t, a.All())
				for i := range 4 {
					checkNone(t, a, i, api.ErrRange)
				}
				for k := range order {
					step{what: "Take", thing: 10*round + k + 1}.do(t, a, m)
					checkSame(t, a, m)
				}
			}
			checkTake(t, a, 1, 4)
		}
	})
}

// TestRefusedCallsTakeNoPlace: Free, At and Put of what is no place, or free, leave what is taken next.
func TestRefusedCallsTakeNoPlace(t *testing.T) {
	each(t, func(t *testing.T, made func() numbered) {
		a, m := filled(t, made, 4)
		step{what: "Free", place: 2}.do(t, a, m)
		step{what: "Free", place: 0}.do(t, a, m)
		for range 3 {
			for _, i := range []int{0, 2, 4, 5, -1, math.MaxInt, math.MinInt} {
				step{what: "Free", place: i}.do(t, a, m)
				step{what: "Put", place: i, thing: 50}.do(t, a, m)
				checkNone(t, a, i, api.ErrRange)
			}
			checkSame(t, a, m)
		}
		checkTake(t, a, 10, 0)
		checkTake(t, a, 11, 2)
		checkTake(t, a, 12, 4)
		checkAll(t, a.All(), entry{0, 10}, entry{1, 2}, entry{2, 11}, entry{3, 4}, entry{4, 12})
	})
}

// P8.2

// noPlaces are numbers that are none of an arena with n places, those among them that would be some if they were cut off at 32 bits.
func noPlaces(n int) []int {
	return []int{n, n + 1, n + 2, 2*n + 100, -1, -2, -n, -n - 1, -1000, math.MaxInt8 + 1, math.MaxUint8 + 1, math.MaxInt16 + 1, math.MaxUint16 + 1, math.MaxInt32, math.MaxInt32 + 1, math.MinInt32, math.MinInt32 + 1,
		math.MaxUint32, math.MaxUint32 + 1, math.MaxUint32 + 2, -math.MaxUint32, -math.MaxUint32 - 1, math.MaxInt, math.MaxInt - 1, math.MinInt, math.MinInt + 1, math.MinInt + 2}
}

func TestNumbersOfNoPlace(t *testing.T) {
	each(t, func(t *testing.T, made func() numbered) {
		for n := 1; n < 6; n++ {
			a, m := filled(t, made, n)
			for range n + 1 {
				for _, i := range noPlaces(n) {
					checkNone(t, a, i, api.ErrRange)
					checkErrno(t, "Free", i, a.Free(i), api.ErrRange)
					checkErrno(t, "Put", i, a.Put(i, 50), api.ErrRange)
				}
				checkSame(t, a, m)
				if len(m.taken) > 0 {
					step{what: "Free", place: m.taken[0].number}.do(t, a, m)
				}
			}
		}
	})
}

// TestFreePlaces: a place that is free has no thing, whatever it had, is freed no second time, and takes none by Put.
func TestFreePlaces(t *testing.T) {
	each(t, func(t *testing.T, made func() numbered) {
		for i := range 4 {
			a, m := filled(t, made, 4)
			step{what: "Put", place: i, thing: 30}.do(t, a, m)
			step{what: "Free", place: i}.do(t, a, m)
			for range 3 {
				checkNone(t, a, i, api.ErrRange)
				checkErrno(t, "Free", i, a.Free(i), api.ErrRange)
				checkErrno(t, "Put", i, a.Put(i, 31), api.ErrRange)
				checkErrno(t, "Put", i, a.Put(i, 0), api.ErrRange)
				checkNone(t, a, i, api.ErrRange)
			}
			checkSame(t, a, m)
			checkTake(t, a, 40, i)
			checkAt(t, a, i, 40)
			checkTake(t, a, 41, 4)
			checkTake(t, a, 42, 5)
		}
	})
}

func TestPutAnew(t *testing.T) {
	each(t, func(t *testing.T, made func() numbered) {
		a, m := filled(t, made, 5)
		for x := range 20 {
			for i := range 5 {
				checkErrno(t, "Put", i, a.Put(i, x+i), api.OK)
				m.put(i, x+i)
				checkAt(t, a, i, x+i)
				checkSame(t, a, m)
			}
		}
	})
}

// TestWhatWasPutIsThere: whatever becomes of the places beside it.
func TestWhatWasPutIsThere(t *testing.T) {
	each(t, func(t *testing.T, made func() numbered) {
		const n = 40
		for i := range n {
			a, _ := filled(t, made, n)
			if i%2 == 1 {
				checkErrno(t, "Put", i, a.Put(i, i+51), api.OK)
			}
			want := i + 1 + 50*(i%2)
			for k := range n {
				if k != i {
					checkErrno(t, "Put", k, a.Put(k, 0), api.OK)
					checkFree(t, a, k)
				}
			}
			checkAt(t, a, i, want)
			checkAll(t, a.All(), entry{i, want})
			for k := range 2 * n {
				if got := a.Take(k); got == i {
					t.Fatalf("Take told %d, which is taken", got)
				}
				checkAt(t, a, i, want)
			}
			checkCounts(t, a, 2*n+1, 2*n+1)
		}
	})
}

// P8.3

// TestAllBeforeAndBehindSteps: what All told is kept, and tells each time what there is then.
func TestAllBeforeAndBehindSteps(t *testing.T) {
	each(t, func(t *testing.T, made func() numbered) {
		a := made()
		all := a.All()
		check := func(want ...entry) {
			t.Helper()
			for range 2 {
				checkAll(t, all, want...)
				checkAll(t, a.All(), want...)
			}
			if a.Len() != len(want) {
				t.Fatalf("Len: %d; want %d", a.Len(), len(want))
			}
		}
		check()
		checkTake(t, a, 1, 0)
		check(entry{0, 1})
		checkTake(t, a, 2, 1)
		checkTake(t, a, 3, 2)
		check(entry{0, 1}, entry{1, 2}, entry{2, 3})
		checkErrno(t, "Put", 1, a.Put(1, 9), api.OK)
		check(entry{0, 1}, entry{1, 9}, entry{2, 3})
		checkFree(t, a, 0)
		check(entry{1, 9}, entry{2, 3})
		for range all {
			break
		}
		check(entry{1, 9}, entry{2, 3})
		checkFree(t, a, 2)
		check(entry{1, 9})
		checkTake(t, a, 4, 2)
		check(entry{1, 9}, entry{2, 4})
		checkTake(t, a, 5, 0)
		check(entry{0, 5}, entry{1, 9}, entry{2, 4})
		checkFree(t, a, 1, 2, 0)
		check()
		if a.Cap() != 3 {
			t.Fatalf("Cap: %d; want 3", a.Cap())
		}
	})
}

// TestAllTellsWhatIsTaken holds All against each choice of six places that are free.
func TestAllTellsWhatIsTaken(t *testing.T) {
	each(t, func(t *testing.T, made func() numbered) {
		for bits := range 1 << 6 {
			a, m := filled(t, made, 6)
			for i := range 6 {
				if bits>>i&1 == 1 {
					step{what: "Free", place: i}.do(t, a, m)
				}
			}
			checkSame(t, a, m)
		}
	})
}

// TestAllBreaksOff calls what All told itself, so that being told more than was asked for is seen, and does not end the test program.
func TestAllBreaksOff(t *testing.T) {
	each(t, func(t *testing.T, made func() numbered) {
		a, m := filled(t, made, 7)
		for _, i := range []int{1, 6, 3} {
			step{what: "Free", place: i}.do(t, a, m)
		}
		want := m.all()
		for n := 1; n <= len(want)+1; n++ {
			var l []entry
			a.All()(func(i, x int) bool {
				l = append(l, entry{i, x})
				return len(l) < n
			})
			if !slices.Equal(l, want[:min(n, len(want))]) {
				t.Fatalf("All, broken off behind %d: %v; want the first of %v", n, l, want)
			}
		}
		checkSame(t, a, m)
	})
}

func TestAllWithinAll(t *testing.T) {
	a, m := filled(t, wholes().made, 5)
	step{what: "Free", place: 2}.do(t, a, m)
	all := a.All()
	var l []int
	for i, x := range all {
		for j, y := range all {
			l = append(l, 1000*i+100*x+10*j+y)
			if j == i {
				break
			}
		}
	}
	if want := []int{101, 1201, 1212, 3401, 3412, 3434, 4501, 4512, 4534, 4545}; !slices.Equal(l, want) {
		t.Fatalf("All within All: %v; want %v", l, want)
	}
}

// TestAllWhileThingsComeAndGo: each is told as it is when it is told.
func TestAllWhileThingsComeAndGo(t *testing.T) {
	cases := []struct {
		what string
		at   func(a numbered, i int)
		want []entry
	}{
		{"each freed as it is told", func(a numbered, i int) { a.Free(i) }, []entry{{0, 1}, {1, 2}, {2, 3}, {3, 4}}},
		{"those ahead freed", func(a numbered, i int) { a.Free(i + 1) }, []entry{{0, 1}, {2, 3}}},
		{"those behind freed", func(a numbered, i int) { a.Free(i - 1) }, []entry{{0, 1}, {1, 2}, {2, 3}, {3, 4}}},
		{"freed, and taken again", func(a numbered, i int) { a.Free(i); a.Take(i + 20) }, []entry{{0, 1}, {1, 2}, {2, 3}, {3, 4}}},
		{"the next one freed, and taken again", func(a numbered, i int) {
			if a.Free(i+1) == api.OK {
				a.Take(i + 20)
			}
		}, []entry{{0, 1}, {1, 20}, {2, 21}, {3, 22}}},
		{"those ahead put anew", func(a numbered, i int) { a.Put(i+1, i+30) }, []entry{{0, 1}, {1, 30}, {2, 31}, {3, 32}}},
		{"themselves put anew", func(a numbered, i int) { a.Put(i, i+30) }, []entry{{0, 1}, {1, 2}, {2, 3}, {3, 4}}},
		{"some more taken", func(a numbered, i int) {
			if i < 3 {
				a.Take(i + 10)
			}
		}, []entry{{0, 1}, {1, 2}, {2, 3}, {3, 4}, {4, 10}, {5, 11}, {6, 12}}},
		{"all freed", func(a numbered, i int) {
			for k := range 4 {
				a.Free(k)
			}
		}, []entry{{0, 1}}},
	}
	each(t, func(t *testing.T, made func() numbered) {
		for _, c := range cases {
			a, _ := filled(t, made, 4)
			var l []entry
			for i, x := range a.All() {
				l = append(l, entry{i, x})
				c.at(a, i)
			}
			if !slices.Equal(l, c.want) {
				t.Fatalf("%s: %v; want %v", c.what, l, c.want)
			}
		}
	})
}

// An arena that is not there.

func TestNoArena(t *testing.T) {
	for _, s := range sorts() {
		t.Run(s.name, func(t *testing.T) {
			a := s.absent()
			all := a.All()
			for range 2 {
				for x := range 3 {
					checkTake(t, a, x, -1)
				}
				for _, i := range append(noPlaces(3), 0, 1, 2) {
					checkErrno(t, "Free", i, a.Free(i), api.ErrNil)
					checkErrno(t, "Put", i, a.Put(i, 1), api.ErrNil)
					checkNone(t, a, i, api.ErrNil)
				}
				checkCounts(t, a, 0, 0)
				checkAll(t, a.All())
				checkAll(t, all)
			}
		})
	}
}

func TestAllIsNeverNil(t *testing.T) {
	for _, a := range []*Arena[string]{nil, {}, new(Arena[string]), New[string]()} {
		if a.All() == nil {
			t.Fatal("an iterator should never be nil")
		}
	}
}

// TestAZeroArenaIsAsANewOne: with each call as the first one.
func TestAZeroArenaIsAsANewOne(t *testing.T) {
	firsts := []func(a numbered) (int, api.Errno){
		func(a numbered) (int, api.Errno) { return a.Take(7), 0 },
		func(a numbered) (int, api.Errno) { return 0, a.Free(0) },
		func(a numbered) (int, api.Errno) { return a.At(0) },
		func(a numbered) (int, api.Errno) { return 0, a.Put(0, 7) },
		func(a numbered) (int, api.Errno) { return a.Len(), 0 },
		func(a numbered) (int, api.Errno) { return a.Cap(), 0 },
		func(a numbered) (int, api.Errno) { return len(told(a.All())), 0 },
	}
	for _, s := range sorts() {
		for k, first := range firsts {
			a, b := s.zero(), s.made()
			x, e := first(a)
			y, f := first(b)
			if x != y || e != f {
				t.Fatalf("%s: call %d: %d, %d; want %d, %d", s.name, k, x, e, y, f)
			}
			for range 3 {
				checkTake(t, a, 1, b.Take(1))
			}
			checkFree(t, a, 1)
			checkFree(t, b, 1)
			checkAll(t, a.All(), told(b.All())...)
			checkCounts(t, a, b.Len(), b.Cap())
		}
	}
}

// TestACopyOfAnArena: it is the same arena, so that calls on one of both neither make those on the other panic, nor write over what it has.
func TestACopyOfAnArena(t *testing.T) {
	for _, first := range []*Arena[int]{New[int](), {}} {
		m := &model{}
		step{what: "Take", thing: 1}.do(t, first, m)
		second := *first
		for i := range 40 {
			step{what: "Take", thing: i}.do(t, &second, m)
			step{what: "Take", thing: 100 + i}.do(t, first, m)
			step{what: "Free", place: i}.do(t, &second, m)
			step{what: "Put", place: i + 1, thing: 200 + i}.do(t, first, m)
			checkSame(t, first, m)
			checkSame(t, &second, m)
		}
	}
}

// Things of all sorts.

// TestThingsThatAreNotThemselves: what is no number is told as it is, bit by bit, and -0 too.
func TestThingsThatAreNotThemselves(t *testing.T) {
	a := New[float64]()
	rows := []uint64{api.NaN, api.NaN | 1<<63, 1 << 63, math.Float64bits(math.Inf(-1)), 1, 0}
	for i, bits := range rows {
		if n := a.Take(math.Float64frombits(bits)); n != i {
			t.Fatalf("Take: %d; want %d", n, i)
		}
	}
	for i, bits := range rows {
		if x, e := a.At(i); math.Float64bits(x) != bits || e != api.OK {
			t.Fatalf("At of %d: %x, %d; want %x, OK", i, math.Float64bits(x), e, bits)
		}
	}
}

// TestThingsWithoutSize: places are told apart by their numbers alone.
func TestThingsWithoutSize(t *testing.T) {
	s := sortOf("nothing", func(int) struct{} { return struct{}{} }, func(struct{}) int { return 0 })
	for _, made := range []func() numbered{s.made, s.zero} {
		a, m := made(), &model{}
		for range 20 {
			step{what: "Take"}.do(t, a, m)
		}
		for i := 0; i < 20; i += 3 {
			step{what: "Free", place: i}.do(t, a, m)
			checkSame(t, a, m)
		}
		for range 20 {
			step{what: "Take"}.do(t, a, m)
			checkSame(t, a, m)
		}
	}
}

// TestAThingIsTheOneThatWasTaken: a pointer's thing may be changed by whoever has it, and a list is told with what stands in it.
func TestAThingIsTheOneThatWasTaken(t *testing.T) {
	p := &item{n: 1}
	a := New[*item]()
	a.Take(p)
	p.n = 2
	if x, e := a.At(0); x != p || x.n != 2 || e != api.OK {
		t.Fatalf("At: %p, %d; want %p", x, e, p)
	}
	row := []int{1, 2, 3}
	b := New[[]int]()
	b.Take(row[:2])
	if x, e := b.At(0); !slices.Equal(x, []int{1, 2}) || &x[0] != &row[0] || e != api.OK {
		t.Fatalf("At: %v, %d", x, e)
	}
	if !slices.Equal(row, []int{1, 2, 3}) {
		t.Fatalf("Take wrote to what was handed in: %v", row)
	}
}

// TestAThingThatIsToldIsACopy: of structs and arrays, the arena's own one is changed by Put alone.
func TestAThingThatIsToldIsACopy(t *testing.T) {
	a := New[[3]int]()
	x := [3]int{1, 2, 3}
	a.Take(x)
	x[0] = 9
	y, _ := a.At(0)
	y[1] = 9
	for _, z := range a.All() {
		z[2] = 9
	}
	if z, e := a.At(0); z != [3]int{1, 2, 3} || e != api.OK {
		t.Fatalf("At: %v, %d; want what was taken", z, e)
	}
	a.Put(0, y)
	y[2] = 9
	if z, e := a.At(0); z != [3]int{1, 9, 3} || e != api.OK {
		t.Fatalf("At: %v, %d; want what was put", z, e)
	}
}

// node is a thing that has an arena of things of its own type.
type node struct {
	name string
	next Arena[node]
}

func TestArenasWithinThings(t *testing.T) {
	var root node
	for i, name := range []string{"a", "b"} {
		n := node{name: name}
		if at := n.next.Take(node{name: name + name}); at != 0 {
			t.Fatalf("Take: %d; want 0", at)
		}
		if at := root.next.Take(n); at != i {
			t.Fatalf("Take: %d; want %d", at, i)
		}
	}
	var l []string
	for _, n := range root.next.All() {
		for _, o := range n.next.All() {
			l = append(l, n.name, o.name)
		}
	}
	if want := []string{"a", "aa", "b", "bb"}; !slices.Equal(l, want) {
		t.Fatalf("%v; want %v", l, want)
	}
}

// TestWhatIsGoneIsNotKept: a thing that was freed, or put another one for, is the arena's no more, and one that is taken is.
func TestWhatIsGoneIsNotKept(t *testing.T) {
	a := New[*item]()
	var seen []weak.Pointer[item]
	func() { // so that nothing but the arena has the things
		for n := range 8 {
			p := itemOf(n + 1)
			seen = append(seen, weak.Make(&p))
			a.Take(&p)
		}
		a.Free(1)
		a.Free(7)
		a.Put(3, &item{})
		a.Put(4, nil)
		a.Free(6)
		a.Take(&item{}) // at 6
	}()
	runtime.GC()
	for n, w := range seen {
		gone := slices.Contains([]int{1, 3, 4, 6, 7}, n)
		if (w.Value() == nil) != gone {
			t.Errorf("the thing of place %d: gone %v; want %v", n, !gone, gone)
		}
	}
	runtime.KeepAlive(a)
}

// Steps of all sorts, against the model.

// TestAllShortRowsOfSteps takes each row of up to six of some steps on a new arena, and on a zero one.
func TestAllShortRowsOfSteps(t *testing.T) {
	steps := []step{{what: "Take"}, {what: "Free"}, {what: "Free", place: 1}, {what: "Free", place: 2}, {what: "Put"}, {what: "Put", place: 1}, {what: "Free", place: -1}}
	take := func(made func() numbered, row []step) {
		a, m := made(), &model{}
		for k, s := range row {
			s.thing = k + 1
			s.do(t, a, m)
		}
		checkSame(t, a, m)
	}
	var rows func(made func() numbered, row []step, length int)
	rows = func(made func() numbered, row []step, length int) {
		take(made, row)
		if len(row) == length {
			return
		}
		for _, s := range steps {
			rows(made, append(slices.Clone(row), s), length)
		}
	}
	for _, s := range sorts() {
		length := 4
		if s.name == wholes().name {
			length = 6
		}
		rows(s.made, nil, length)
		rows(s.zero, nil, length)
	}
}

// TestLongRowsOfSteps: which step is next is told by a rule, so that each run takes the same ones. Cap is held against the greatest Len that was.
func TestLongRowsOfSteps(t *testing.T) {
	each(t, func(t *testing.T, made func() numbered) {
		for seed := range uint64(3) {
			n := seed
			next := func(below int) int {
				n = n*0x5851f42d4c957f2d + 0x14057b7ef767814f
				return int(n>>33) % below
			}
			a, m, most := made(), &model{}, 0
			for i := range 1500 {
				s := step{what: "Take", place: next(m.places+3) - 1, thing: next(200)}
				if kind := next(20); kind < 8+i/200%5 { // at times more is freed than taken
					s.what = "Free"
				} else if kind < 14 {
					s.what = "Put"
				}
				s.do(t, a, m)
				if most = max(most, a.Len()); a.Cap() != most {
					t.Fatalf("Cap: %d; want %d, the greatest Len", a.Cap(), most)
				}
				if i%16 == 0 {
					checkSame(t, a, m)
				}
			}
			checkSame(t, a, m)
		}
	})
}

// TestManyPlaces takes an arena over many sizes, up and down again.
func TestManyPlaces(t *testing.T) {
	const many = 1 << 17
	a := New[string]()
	for i := range many {
		if n := a.Take(strconv.Itoa(i)); n != i {
			t.Fatalf("Take: %d; want %d", n, i)
		}
	}
	for i := 0; i < many; i += 2 {
		checkErrno(t, "Free", i, a.Free(i), api.OK)
	}
	if a.Len() != many/2 || a.Cap() != many {
		t.Fatalf("Len, Cap: %d, %d", a.Len(), a.Cap())
	}
	at := 1
	for i, s := range a.All() {
		if i != at || s != strconv.Itoa(i) {
			t.Fatalf("All: %d, %s; want %d", i, s, at)
		}
		at += 2
	}
	for i := many - 2; i >= 0; i -= 2 { // the one that was freed last first
		if n := a.Take(fmt.Sprint("again ", i)); n != i {
			t.Fatalf("Take: %d; want %d", n, i)
		}
	}
	if n := a.Take("new"); n != many || a.Len() != many+1 || a.Cap() != many+1 {
		t.Fatalf("Take: %d; Len, Cap: %d, %d", n, a.Len(), a.Cap())
	}
	for i := range many {
		want := strconv.Itoa(i)
		if i%2 == 0 {
			want = "again " + want
		}
		if s, e := a.At(i); s != want || e != api.OK {
			t.Fatalf("At of %d: %s, %d; want %s", i, s, e, want)
		}
	}
}

// TestEachCallIsShort: neither how many places there are nor how many are free makes a call long, but for All.
func TestEachCallIsShort(t *testing.T) {
	const many = 1 << 18
	a := New[int]()
	for i := range many {
		a.Take(i)
	}
	for i := range many {
		a.Free(i)
	}
	for i := range 4 * many { // would not end for hours, if each went over all places
		k := a.Take(i)
		checkAt(t, a, k, i)
		checkErrno(t, "Put", k, a.Put(k, -i), api.OK)
		checkCounts(t, a, 1, many)
		checkFree(t, a, k)
	}
}
