package spans

import (
	"fmt"
	"iter"
	"math"
	"math/big"
	"math/bits"
	"slices"
	"testing"

	"rubric/api"
)

// The signatures are the chapter's.
var (
	_ func() *Spans                                      = New
	_ func(*Spans) int                                   = (*Spans).Len
	_ func(*Spans) int                                   = (*Spans).Count
	_ func(*Spans, int) (int, api.Errno)                 = (*Spans).At
	_ func(*Spans, int, int, []api.Span) api.Errno       = (*Spans).Splice
	_ func(*Spans, int, int) ([]api.Span, api.Errno)     = (*Spans).Over
	_ func(*Spans, int, int, func(id int) int) api.Errno = (*Spans).Map
	_ func(*Spans) iter.Seq[api.Span]                    = (*Spans).All
	_ func(*Spans) int                                   = (*Spans).Height
	_ func(*Spans) *Spans                                = (*Spans).Copy
)

// The model: the chapter's words, said of a plain list of numbers.

const most = 1 << 29

type (
	row  = []int
	list = []api.Span
)

// of answers spans, of each how many, and which.
func of(pairs ...int) list {
	var l list
	for i := 0; i+1 < len(pairs); i += 2 {
		l = append(l, api.Span{N: pairs[i], ID: pairs[i+1]})
	}
	return l
}

// spansOf answers the spans of a list of numbers.
func spansOf(l row) list {
	var s list
	for i, id := range l {
		if i > 0 && l[i-1] == id {
			s[len(s)-1].N++
			continue
		}
		s = append(s, api.Span{N: 1, ID: id})
	}
	return s
}

// numbersOf answers the numbers that spans tell.
func numbersOf(s list) row {
	var l row
	for _, x := range s {
		for range x.N {
			l = append(l, x.ID)
		}
	}
	return l
}

// wantReach answers what is told of places i and j of a list of n numbers.
func wantReach(n, i, j int) api.Errno {
	if 0 <= i && i <= j && j <= n {
		return 0
	}
	return 5
}

// wantSplice answers what Splice answers of a list of n numbers.
func wantSplice(n, i, j int, l list) api.Errno {
	together := new(big.Int)
	for _, x := range l {
		if x.N < 0 || x.ID < 0 {
			return 3
		}
		together.Add(together, big.NewInt(int64(x.N)))
	}
	if e := wantReach(n, i, j); e != 0 {
		return e
	}
	together.Add(together, big.NewInt(int64(n-(j-i))))
	if together.Cmp(big.NewInt(most)) > 0 {
		return 8
	}
	return 0
}

// Numbers and lists that the tests go over.

// ends are numbers of no place, and some about those that are.
func ends() []int {
	return []int{math.MinInt, math.MinInt + 1, math.MinInt32 - 1, math.MinInt32, -1 << 29, -257, -256, -2, -1,
		255, 256, 257, 1<<29 - 1, 1 << 29, 1<<29 + 1, math.MaxInt32, math.MaxInt32 + 1, 1 << 32, 1<<32 + 1, 1 << 62, math.MaxInt - 1, math.MaxInt}
}

// places are those numbers, and all about a list of n.
func places(n int) []int {
	at := ends()
	for i := -3; i <= n+3; i++ {
		at = append(at, i)
	}
	return at
}

// few are some of those places.
func few(n int) []int {
	return []int{math.MinInt, -1, 0, 1, 2, n / 3, n / 2, n - 2, n - 1, n, n + 1, math.MaxInt}
}

// rule is a row of numbers that looks like chance and is the same at each run.
type rule uint64

func (r *rule) next(n int) int {
	*r = *r*6364136223846793005 + 1442695040888963407
	return int(uint64(*r) >> 33 % uint64(n))
}

// row answers n numbers, many of which are like the one ahead of them.
func (r *rule) row(n int) row {
	l := make(row, n)
	for i := range l {
		if l[i] = r.next(4); i > 0 && r.next(3) > 0 {
			l[i] = l[i-1]
		}
	}
	return l
}

// rising are n numbers, no two alike.
func rising(n int) row {
	l := make(row, n)
	for i := range l {
		l[i] = i + 5
	}
	return l
}

// alike are n times the number.
func alike(id, n int) row {
	return slices.Repeat(row{id}, n)
}

// rows are lists of n numbers: of one span, of as many spans as numbers, of spans of all lengths, of long ones with a short one at either end, and by a rule.
func rows(n int) []row {
	by := rule(n)
	two, growing, middle := make(row, n), make(row, n), alike(1, n)
	for i := range n {
		two[i] = i % 2
		growing[i] = bits.Len(uint(i))
	}
	if n > 0 {
		middle[0], middle[n-1] = 2, 2
	}
	return []row{alike(0, n), alike(math.MaxInt, n), rising(n), two, growing, middle, by.row(n), by.row(n)}
}

// pieces are lists of spans that tell those numbers: just its spans; one for each number; in pieces of two; and with spans of none ahead, between and behind them.
func pieces(l row) []list {
	var single, pairs, idle list
	for i, id := range l {
		single = append(single, api.Span{N: 1, ID: id})
		idle = append(idle, api.Span{ID: id}, api.Span{N: 1, ID: id}, api.Span{ID: id + 1 - 2*(id%2)}, api.Span{ID: math.MaxInt})
		if last := len(pairs) - 1; i%2 == 1 && pairs[last].ID == id {
			pairs[last].N++
		} else {
			pairs = append(pairs, api.Span{N: 1, ID: id})
		}
	}
	return []list{spansOf(l), single, pairs, append(idle, api.Span{}, api.Span{ID: 3})}
}

// Spans, with the list that they stand for.

type known struct {
	s *Spans
	l row
}

func made(t *testing.T, l row) *known {
	t.Helper()
	k := &known{s: New()}
	k.splice(t, 0, 0, spansOf(l))
	return k
}

// splice hands in memory that is written over when the call has come back.
func (k *known) splice(t *testing.T, i, j int, l list) api.Errno {
	t.Helper()
	in := slices.Concat(l, of(7, 7, 8, 8))
	e := k.s.Splice(i, j, in[:len(l)])
	if !slices.Equal(in, slices.Concat(l, of(7, 7, 8, 8))) {
		t.Fatalf("Splice wrote to what it was handed in: %v, and it was %v", in, l)
	}
	for n := range in {
		in[n] = api.Span{N: 3, ID: 99}
	}
	if want := wantSplice(len(k.l), i, j, l); e != want {
		t.Fatalf("of %d: Splice(%d, %d, %v) %d, want %d", k.l, i, j, l, e, want)
	}
	if e == 0 {
		k.l = slices.Concat(k.l[:i], numbersOf(l), k.l[j:])
	}
	return e
}

// change has Map do what f tells, and holds of what f is asked against the list.
func (k *known) change(t *testing.T, i, j int, f func(id int) int) api.Errno {
	t.Helper()
	var asked, told, want row
	e := k.s.Map(i, j, func(id int) int {
		asked = append(asked, id)
		told = append(told, f(id))
		return told[len(told)-1]
	})
	wantE := wantReach(len(k.l), i, j)
	var part list
	if wantE == 0 {
		part = spansOf(k.l[i:j])
	}
	for _, x := range part {
		want = append(want, x.ID)
	}
	if !slices.Equal(asked, want) {
		t.Fatalf("of %d: Map(%d, %d) asked of %d, want %d", k.l, i, j, asked, want)
	}
	for n := range part {
		if part[n].ID = told[n]; told[n] < 0 {
			wantE = 3
		}
	}
	if e != wantE {
		t.Fatalf("of %d: Map(%d, %d) to %d: %d, want %d", k.l, i, j, told, e, wantE)
	}
	if e == 0 {
		k.l = slices.Concat(k.l[:i], numbersOf(part), k.l[j:])
	}
	return e
}

func (k *known) copy(t *testing.T) *known {
	t.Helper()
	s := k.s.Copy()
	if s == nil || s == k.s {
		t.Fatalf("of %d: Copy %v", k.l, s)
	}
	return &known{s, slices.Clone(k.l)}
}

// numbers asks how many numbers and spans there are, and which, and how high the tree is.
func (k *known) numbers(t *testing.T, what string) {
	t.Helper()
	want := spansOf(k.l)
	if n, m := k.s.Len(), k.s.Count(); n != len(k.l) || m != len(want) {
		t.Fatalf("%s, of %d: Len %d, Count %d, want %d", what, k.l, n, m, len(want))
	}
	if got := slices.Collect(k.s.All()); !slices.Equal(got, want) {
		t.Fatalf("%s, of %d: All %v", what, k.l, got)
	}
	if got, e := k.s.Over(0, len(k.l)); !slices.Equal(got, want) || e != 0 {
		t.Fatalf("%s, of %d: Over(0, %d) %v, %d", what, k.l, len(k.l), got, e)
	}
	checkHeight(t, what, k.s)
}

// checkHeight holds the height against how many spans there are.
func checkHeight(t *testing.T, what string, s *Spans) {
	t.Helper()
	h, digits := s.Height(), bits.Len(uint(s.Count()))
	if h > 2*digits || h < 0 || (h == 0) != (s.Len() == 0) {
		t.Fatalf("%s: Height %d of %d spans, at most %d", what, h, s.Count(), 2*digits)
	}
}

func (k *known) over(t *testing.T, what string, i, j int) {
	t.Helper()
	var want list
	wantE := wantReach(len(k.l), i, j)
	if wantE == 0 {
		want = spansOf(k.l[i:j])
	}
	got, e := k.s.Over(i, j)
	if !slices.Equal(got, want) || e != wantE {
		t.Fatalf("%s, of %d: Over(%d, %d) %v, %d, want %v, %d", what, k.l, i, j, got, e, want, wantE)
	}
}

func (k *known) at(t *testing.T, what string, i int) {
	t.Helper()
	want, wantE := 0, api.Errno(5)
	if 0 <= i && i < len(k.l) {
		want, wantE = k.l[i], 0
	}
	if id, e := k.s.At(i); id != want || e != wantE {
		t.Fatalf("%s, of %d: At(%d) %d, %d, want %d, %d", what, k.l, i, id, e, want, wantE)
	}
}

// broken breaks All off at the front, in the midst and at the end.
func (k *known) broken(t *testing.T, what string) {
	t.Helper()
	want := spansOf(k.l)
	for _, last := range []int{0, 1, len(want) / 2, len(want) - 2, len(want) - 1} {
		if last < 0 || last >= len(want) {
			continue
		}
		var got list
		for x := range k.s.All() {
			if got = append(got, x); len(got) > last {
				break
			}
		}
		if !slices.Equal(got, want[:last+1]) {
			t.Fatalf("%s, of %d: All, broken off at %d, %v", what, k.l, last, got)
		}
	}
}

// check asks the spans all that can be read of them.
func (k *known) check(t *testing.T, what string) {
	t.Helper()
	k.numbers(t, what)
	k.broken(t, what)
	for _, i := range places(len(k.l)) {
		k.at(t, what, i)
	}
	for _, i := range few(len(k.l)) {
		for _, j := range few(len(k.l)) {
			k.over(t, what, i, j)
		}
	}
}

// blanks are spans without numbers, however they came by it.
func blanks(t *testing.T) map[string]*known {
	t.Helper()
	all := map[string]*known{"new": {s: New()}, "zero": {s: &Spans{}}}
	all["copy of a new one"] = all["new"].copy(t)
	all["copy of a zero one"] = all["zero"].copy(t)
	all["emptied"] = made(t, rising(50))
	all["emptied"].splice(t, 0, 50, nil)
	all["emptied of one span"] = made(t, alike(4, 50))
	all["emptied of one span"].splice(t, 0, 50, list{})
	all["emptied bit by bit"] = made(t, rising(9))
	for range 9 {
		all["emptied bit by bit"].splice(t, 0, 1, of(0, 5))
	}
	all["zero, with nothing put in"] = &known{s: &Spans{}}
	all["zero, with nothing put in"].splice(t, 0, 0, nil)
	all["zero, with spans of none put in"] = &known{s: &Spans{}}
	all["zero, with spans of none put in"].splice(t, 0, 0, of(0, 1, 0, 1, 0, 0, 0, 2))
	all["zero, with nothing mapped"] = &known{s: &Spans{}}
	all["zero, with nothing mapped"].change(t, 0, 0, func(int) int { return -1 })
	return all
}

// The chapter's examples.

func TestExamples(t *testing.T) {
	s := New()
	if e := s.Splice(0, 0, of(3, 1, 2, 1, 1, 2)); e != api.OK {
		t.Fatalf("Splice %d", e)
	}
	if n := s.Count(); n != 2 {
		t.Errorf("Count %d", n)
	}
	if id, e := s.At(5); id != 2 || e != api.OK {
		t.Errorf("At(5) %d, %d", id, e)
	}
	if e := s.Splice(1, 4, of(2, 2)); e != api.OK {
		t.Errorf("Splice(1, 4) %d", e)
	}
	if l, e := s.Over(0, 4); !slices.Equal(l, of(1, 1, 2, 2, 1, 1)) || e != api.OK {
		t.Errorf("Over(0, 4) %v, %d", l, e)
	}
}

func TestLimitsAndErrorsAreThoseOfTheDocument(t *testing.T) {
	if api.MaxLen != most {
		t.Fatalf("MaxLen %d", api.MaxLen)
	}
	if api.OK != 0 || api.ErrNil != 1 || api.ErrMalformed != 3 || api.ErrRange != 5 || api.ErrTooLong != 8 {
		t.Fatalf("errors %d, %d, %d, %d, %d", api.OK, api.ErrNil, api.ErrMalformed, api.ErrRange, api.ErrTooLong)
	}
}

// P11.1

func TestBlankOnes(t *testing.T) {
	for what, k := range blanks(t) {
		k.check(t, what)
		if k.s.Len() != 0 || k.s.Count() != 0 || k.s.Height() != 0 {
			t.Fatalf("%s: %d, %d, %d", what, k.s.Len(), k.s.Count(), k.s.Height())
		}
		for range k.s.All() {
			t.Fatalf("%s: All tells something", what)
		}
	}
	if a, b := New(), New(); a == b {
		t.Fatal("two new ones are one")
	}
}

func TestBlankOnesAreAsNewOnes(t *testing.T) {
	for what, k := range blanks(t) {
		k.splice(t, 0, 0, of(1, -1))
		k.splice(t, 0, 1, of(1, 1))
		k.splice(t, 1, 1, nil)
		k.change(t, 0, 1, func(int) int { return 1 })
		k.check(t, what+", after what was refused")
		k.splice(t, 0, 0, spansOf(rising(20)))
		k.check(t, what+", with numbers put in")
		k.splice(t, 20, 20, of(9, 24))
		k.check(t, what+", with more of the last put in")
	}
}

func TestNewOnesGoTheirOwnWays(t *testing.T) {
	a, b := made(t, row{1, 1, 2}), made(t, nil)
	b.check(t, "beside another one")
	b.splice(t, 0, 0, of(2, 5))
	a.check(t, "beside another one")
	b.check(t, "beside another one")
}

func TestAllLengths(t *testing.T) {
	for n := range 70 {
		for _, l := range rows(n) {
			for _, in := range pieces(l) {
				k := &known{s: New()}
				k.splice(t, 0, 0, in)
				k.check(t, "put in at once")
			}
		}
	}
	for _, n := range []int{127, 128, 129, 1023, 1024, 1025} {
		for _, l := range rows(n) {
			made(t, l).check(t, "put in at once")
		}
	}
}

// A number is whatever is 0 or above.
func TestAllNumbers(t *testing.T) {
	var ids row
	for bit := range 63 {
		ids = append(ids, 1<<bit-1, 1<<bit, 1<<bit+1)
	}
	ids = append(ids, math.MaxInt-1, math.MaxInt)
	k := made(t, ids)
	k.check(t, "all numbers")
	for i := range ids {
		for _, id := range ids {
			k.splice(t, i, i+1, of(1, id))
			k.at(t, "all numbers", i)
		}
		k.change(t, i, i+1, func(int) int { return ids[len(ids)-1-i] })
		k.numbers(t, "all numbers, mapped")
	}
}

// P11.2

func TestSpliceAtAllPlaces(t *testing.T) {
	in := []list{nil, {}, of(0, 1), of(0, 9, 0, 0), of(1, 0), of(1, 1), of(3, 2), of(1, 0, 1, 1), of(2, 1, 1, 1, 0, 2, 1, 1), of(1, 9, 0, 1, 2, 9, 4, 0), of(2, 1, 2, 2, 2, 3, 2, 1)}
	for _, l := range []row{nil, {1}, {1, 1}, {1, 2}, {0, 0, 0, 0, 0}, {1, 1, 1, 2, 2, 2}, {0, 1, 0, 1, 0}, {1, 1, 0, 2, 2, 1, 1}, {3, 3, 2, 1, 1, 1, 2, 3, 3}} {
		whole := made(t, l)
		for i := -2; i <= len(l)+2; i++ {
			for j := -2; j <= len(l)+2; j++ {
				for _, x := range in {
					k := whole.copy(t)
					k.splice(t, i, j, x)
					k.check(t, fmt.Sprintf("Splice(%d, %d, %v)", i, j, x))
				}
			}
		}
		whole.check(t, "copied from")
	}
}

func TestSpliceOfLongRows(t *testing.T) {
	for _, n := range []int{30, 65} {
		for _, l := range rows(n) {
			whole := made(t, l)
			for _, i := range few(n) {
				for _, j := range few(n) {
					for _, m := range []int{0, 1, 40} {
						for _, in := range pieces(rows(m)[6]) {
							k := whole.copy(t)
							if k.splice(t, i, j, in) == 0 {
								k.numbers(t, fmt.Sprintf("Splice(%d, %d, %v)", i, j, in))
								k.splice(t, i, i+m, spansOf(l[i:j]))
							}
							k.numbers(t, "put in and taken out again")
						}
					}
				}
			}
		}
	}
}

// Spans like the neighbour on either side are one with it, and what stood on both sides of what is gone is one, too.
func TestSpliceOfNeighboursAlike(t *testing.T) {
	for _, c := range []struct {
		l    row
		i, j int
		in   list
		want list
	}{
		{row{1, 1, 2}, 0, 0, of(3, 1), of(5, 1, 1, 2)},
		{row{1, 1, 2}, 3, 3, of(3, 2), of(2, 1, 4, 2)},
		{row{1, 1, 2}, 2, 2, of(3, 1), of(5, 1, 1, 2)},
		{row{1, 1, 2}, 2, 2, of(3, 2), of(2, 1, 4, 2)},
		{row{1, 1, 2}, 1, 1, of(3, 1), of(5, 1, 1, 2)},
		{row{1, 1, 2}, 2, 2, of(1, 1, 1, 2), of(3, 1, 2, 2)},
		{row{1, 1, 2}, 2, 2, of(1, 2, 1, 1), of(2, 1, 1, 2, 1, 1, 1, 2)},
		{row{1, 2, 1}, 1, 2, nil, of(2, 1)},
		{row{1, 2, 1}, 1, 2, of(0, 2), of(2, 1)},
		{row{1, 2, 1}, 1, 2, of(4, 1), of(6, 1)},
		{row{1, 2, 1}, 1, 2, of(4, 1, 0, 5, 4, 1), of(10, 1)},
		{row{1, 2, 2, 1}, 2, 3, of(1, 1), of(1, 1, 1, 2, 2, 1)},
		{row{1, 2, 3, 1, 1}, 1, 3, nil, of(3, 1)},
		{row{1, 2, 3, 1, 1}, 1, 4, nil, of(2, 1)},
		{row{1, 2, 3, 1, 1}, 0, 3, nil, of(2, 1)},
		{row{1, 2, 3, 2, 1}, 2, 3, of(1, 2), of(1, 1, 3, 2, 1, 1)},
		{row{1, 2, 3, 2, 1}, 1, 4, of(1, 1), of(3, 1)},
	} {
		k := made(t, c.l)
		k.splice(t, c.i, c.j, c.in)
		if got := slices.Collect(k.s.All()); !slices.Equal(got, c.want) || k.s.Count() != len(c.want) {
			t.Fatalf("of %d: Splice(%d, %d, %v) makes %v, want %v", c.l, c.i, c.j, c.in, got, c.want)
		}
		k.check(t, "neighbours alike")
	}
}

func TestSpliceOfWhatIsMalformed(t *testing.T) {
	wrong := of(-1, 1, 1, -1, 0, -1, -1, 0, -1, -1, math.MinInt, 1, 1, math.MinInt, 0, math.MinInt, math.MinInt, math.MinInt, math.MaxInt, -1, -most, 1, -1<<32, 1, 1, -1<<32)
	for _, l := range []row{nil, {1}, {1, 1, 2, 2, 3}} {
		k := made(t, l)
		for _, m := range []int{1, 2, 3, 10} {
			for at := range m {
				for _, x := range wrong {
					for _, other := range of(1, 1, 0, 0, most, 2, math.MaxInt, 2) {
						in := slices.Repeat(list{other}, m)
						in[at] = x
						for _, i := range few(len(l)) {
							for _, j := range []int{0, i, len(l), -1, math.MaxInt} {
								if e := k.splice(t, i, j, in); e != api.ErrMalformed {
									t.Fatalf("Splice(%d, %d, %v) %d", i, j, in, e)
								}
							}
						}
					}
				}
			}
		}
		k.check(t, "after what was refused")
	}
}

func TestSpliceAtNoPlace(t *testing.T) {
	for _, l := range []row{nil, {1}, rising(40), alike(3, 40)} {
		k := made(t, l)
		for _, i := range places(len(l)) {
			for _, j := range places(len(l)) {
				if wantReach(len(l), i, j) == 0 {
					continue
				}
				for _, in := range []list{nil, of(0, 1), of(1, 1), of(most+1, 1), of(math.MaxInt, 1, math.MaxInt, 1, 2, 1)} {
					if e := k.splice(t, i, j, in); e != api.ErrRange {
						t.Fatalf("Splice(%d, %d, %v) %d", i, j, in, e)
					}
				}
			}
		}
		k.check(t, "after what was refused")
	}
}

// tooLong are lists of spans that are more than so many numbers.
func tooLong(room int) []list {
	return []list{
		of(room+1, 1),
		of(room, 1, 1, 1),
		of(room, 1, 1, 2),
		of(1, 1, room, 2),
		of(0, 1, room, 1, 0, 1, 0, 2, 1, 3),
		of(most+1, 1),
		of(most, 1, most, 2),
		of(1<<32, 1),
		of(1<<32+1, 1, 1, 2),
		of(1<<62, 1, 1<<62, 2),
		of(math.MaxInt, 1),
		of(1, 1, math.MaxInt, 2),
		of(math.MaxInt, 1, 1, 2),
		of(math.MaxInt, 1, math.MaxInt, 1, 2, 1),
		of(math.MaxInt, 1, math.MaxInt, 2, 2, 3, 1, 1),
		of(1<<62, 1, 1<<62, 2, 1<<62, 3, 1<<62, 4),
		of(1<<62, 1, 1<<62, 2, 1<<62, 3, 1<<62, 4, 1, 5),
		slices.Repeat(of(1<<58, 1, 1<<58, 2), 32),
	}
}

func TestSpliceOfTooMany(t *testing.T) {
	for _, l := range []row{nil, {1}, {1, 1, 2, 2, 3}, alike(1, 40)} {
		k := made(t, l)
		for _, i := range []int{0, 1, len(l) / 2, len(l)} {
			for _, j := range []int{i, i + 1, len(l)} {
				if wantReach(len(l), i, j) != 0 {
					continue
				}
				for _, in := range tooLong(most - len(l) + j - i) {
					if e := k.splice(t, i, j, in); e != api.ErrTooLong {
						t.Fatalf("of %d: Splice(%d, %d, %v) %d", l, i, j, in, e)
					}
				}
			}
		}
		k.check(t, "after what was refused")
	}
}

// long is spans of many numbers, with the list of spans that they stand for.
type long struct {
	s *Spans
	l list
}

func (k *long) check(t *testing.T, what string) {
	t.Helper()
	n := 0
	for i, x := range k.l {
		for _, in := range []int{0, 1, x.N / 2, x.N - 1} {
			if in >= x.N {
				continue
			}
			if id, e := k.s.At(n + in); id != x.ID || e != 0 {
				t.Fatalf("%s, of %v: At(%d) %d, %d", what, k.l, n+in, id, e)
			}
			if l, e := k.s.Over(n+in, n+x.N); !slices.Equal(l, of(x.N-in, x.ID)) || e != 0 {
				t.Fatalf("%s, of %v: Over within span %d: %v, %d", what, k.l, i, l, e)
			}
		}
		n += x.N
	}
	if k.s.Len() != n || k.s.Count() != len(k.l) || !slices.Equal(slices.Collect(k.s.All()), k.l) {
		t.Fatalf("%s, of %v: Len %d, Count %d, All %v", what, k.l, k.s.Len(), k.s.Count(), slices.Collect(k.s.All()))
	}
	for _, i := range []int{n, n + 1, math.MaxInt, -1} {
		if id, e := k.s.At(i); id != 0 || e != api.ErrRange {
			t.Fatalf("%s, of %v: At(%d) %d, %d", what, k.l, i, id, e)
		}
	}
	checkHeight(t, what, k.s)
}

func (k *long) splice(t *testing.T, i, j int, in, becomes list) {
	t.Helper()
	if e := k.s.Splice(i, j, in); e != api.OK {
		t.Fatalf("of %v: Splice(%d, %d, %v) %d", k.l, i, j, in, e)
	}
	k.l = becomes
	k.check(t, "of many numbers")
}

func (k *long) refuse(t *testing.T, i, j int, in list, want api.Errno) {
	t.Helper()
	if e := k.s.Splice(i, j, in); e != want {
		t.Fatalf("of %v: Splice(%d, %d, %v) %d, want %d", k.l, i, j, in, e, want)
	}
}

func TestGreatestLength(t *testing.T) {
	k := &long{s: New()}
	k.refuse(t, 0, 0, of(most+1, 1), api.ErrTooLong)
	k.splice(t, 0, 0, of(most, 1), of(most, 1))
	for _, i := range []int{0, 1, most / 2, most} {
		for _, in := range tooLong(0) {
			k.refuse(t, i, i, in, api.ErrTooLong)
		}
		k.splice(t, i, i, of(0, 2), k.l)
		k.refuse(t, i, i, of(1, -1), api.ErrMalformed)
		k.refuse(t, i, i-1, of(1, 1), api.ErrRange)
		k.refuse(t, most+1, i, of(1, 1), api.ErrRange)
		k.refuse(t, i, most+1, of(1, 1), api.ErrRange)
	}
	k.check(t, "after what was refused")
	k.splice(t, most/2, most/2+2, of(1, 7, 1, 8), of(most/2, 1, 1, 7, 1, 8, most/2-2, 1))
	k.refuse(t, 5, 15, of(10, 1, 1, 2), api.ErrTooLong)
	k.splice(t, 0, most, of(1, 2, most-2, 3, 1, 2), of(1, 2, most-2, 3, 1, 2))
	k.refuse(t, 0, most, of(1, 2, most-1, 3, 1, 2), api.ErrTooLong)
	k.splice(t, 1, most, nil, of(1, 2))
	k.refuse(t, 1, 1, of(most, 2), api.ErrTooLong)
	k.refuse(t, 0, 0, of(most-1, 2, 1, 2), api.ErrTooLong)
	k.splice(t, 1, 1, of(most-1, 2), of(most, 2))
	c := &long{k.s.Copy(), k.l}
	k.splice(t, 0, most, nil, nil)
	c.check(t, "a copy")
}

func TestMapOfTheGreatestLength(t *testing.T) {
	k := &long{s: New()}
	k.splice(t, 0, 0, of(most/2, 1, most/2, 2), of(most/2, 1, most/2, 2))
	swap := func(id int) int { return 3 - id }
	for _, c := range []struct {
		i, j int
		want list
	}{
		{0, most, of(most/2, 2, most/2, 1)},
		{most/2 - 1, most/2 + 1, of(most/2-1, 2, 1, 1, 1, 2, most/2-1, 1)},
		{1, most, of(1, 2, most/2-2, 1, 1, 2, 1, 1, most/2-1, 2)},
	} {
		if e := k.s.Map(c.i, c.j, swap); e != api.OK {
			t.Fatalf("Map(%d, %d) %d", c.i, c.j, e)
		}
		k.l = c.want
		k.check(t, "of many numbers, mapped")
	}
	if e := k.s.Map(0, most, func(int) int { return 5 }); e != api.OK {
		t.Fatalf("Map %d", e)
	}
	k.l = of(most, 5)
	k.check(t, "of many numbers, mapped to one")
}

func TestOverOfAllPlaces(t *testing.T) {
	for _, n := range []int{0, 1, 2, 7, 40, 65} {
		for _, l := range rows(n) {
			k := made(t, l)
			for i := -2; i <= n+2; i++ {
				for j := -2; j <= n+2; j++ {
					k.over(t, "all places", i, j)
				}
			}
			for _, i := range places(n) {
				for _, j := range ends() {
					k.over(t, "far places", i, j)
					k.over(t, "far places", j, i)
				}
			}
		}
	}
}

func TestToldSpansAreTheCallers(t *testing.T) {
	for _, l := range []row{{1}, {1, 1, 2}, rising(40), alike(2, 9)} {
		k := made(t, l)
		a, _ := k.s.Over(0, len(l))
		b, _ := k.s.Over(0, len(l))
		for i := range a {
			a[i] = api.Span{N: 77, ID: 78}
		}
		if !slices.Equal(b, spansOf(l)) {
			t.Fatalf("of %d: two lists that are told share memory", l)
		}
		_ = append(b[:len(b)/2], make(list, 60)...)
		clear(b[:cap(b)])
		for x := range k.s.All() {
			x.N, x.ID = 5, 6
		}
		k.check(t, "after what was told was written over")
	}
}

func TestMapOfAllPlaces(t *testing.T) {
	by := rule(5)
	for what, f := range map[string]func(id int) int{
		"the same":     func(id int) int { return id },
		"one":          func(int) int { return 2 },
		"none other":   func(int) int { return 0 },
		"another":      func(id int) int { return (id + 1) % 7 },
		"turned round": func(id int) int { return 3 - min(id, 3) },
		"alike by two": func(id int) int { return id / 2 },
		"greatest":     func(int) int { return math.MaxInt },
		"by a rule":    func(int) int { return by.next(3) },
		"below 0":      func(int) int { return by.next(30) - 1 },
	} {
		for _, n := range []int{0, 1, 2, 9, 20} {
			for _, l := range rows(n) {
				whole := made(t, l)
				for i := -2; i <= n+2; i++ {
					for j := -2; j <= n+2; j++ {
						k := whole.copy(t)
						k.change(t, i, j, f)
						k.numbers(t, fmt.Sprintf("%s: Map(%d, %d)", what, i, j))
					}
				}
				for _, i := range ends() {
					whole.change(t, i, n, f)
					whole.change(t, 0, i, f)
					whole.change(t, i, i, f)
				}
				whole.check(t, "copied from, "+what)
			}
		}
	}
}

// Neighbours that become alike are one span, those of the part and those at its edges.
func TestMapMakesNeighboursAlike(t *testing.T) {
	to := func(id int) func(int) int { return func(int) int { return id } }
	for _, c := range []struct {
		l    row
		i, j int
		f    func(int) int
		want list
	}{
		{row{1, 2, 3}, 0, 3, to(5), of(3, 5)},
		{row{1, 2, 3}, 0, 2, to(5), of(2, 5, 1, 3)},
		{row{1, 2, 3}, 1, 2, to(1), of(2, 1, 1, 3)},
		{row{1, 2, 3}, 1, 2, to(3), of(1, 1, 2, 3)},
		{row{1, 2, 1}, 1, 2, to(1), of(3, 1)},
		{row{1, 2, 3, 1}, 1, 3, to(1), of(4, 1)},
		{row{1, 1, 1, 1}, 1, 3, to(2), of(1, 1, 2, 2, 1, 1)},
		{row{1, 1, 1, 1}, 1, 3, to(1), of(4, 1)},
		{row{1, 1, 2, 2}, 1, 3, func(id int) int { return 3 - id }, of(1, 1, 1, 2, 1, 1, 1, 2)},
		{row{1, 1, 2, 2}, 0, 2, to(2), of(4, 2)},
		{row{1, 1, 2, 2}, 2, 4, to(1), of(4, 1)},
		{row{1, 2, 1, 2, 1}, 1, 4, func(id int) int { return 3 - id }, of(2, 1, 1, 2, 2, 1)},
	} {
		k := made(t, c.l)
		k.change(t, c.i, c.j, c.f)
		if got := slices.Collect(k.s.All()); !slices.Equal(got, c.want) || k.s.Count() != len(c.want) {
			t.Fatalf("of %d: Map(%d, %d) makes %v, want %v", c.l, c.i, c.j, got, c.want)
		}
		k.check(t, "neighbours made alike")
	}
}

// f is asked of each span of its own, also of those that are like one ahead, and also behind a number that may not be.
func TestMapAsksOnceASpan(t *testing.T) {
	for _, c := range []struct {
		l, asked row
		i, j     int
	}{
		{row{1, 1, 2, 2, 1, 1}, row{1, 2, 1}, 0, 6},
		{row{1, 1, 2, 2, 1, 1}, row{1, 2, 1}, 1, 5},
		{row{1, 1, 2, 2, 1, 1}, row{2}, 2, 4},
		{row{1, 1, 2, 2, 1, 1}, row{2}, 3, 4},
		{row{1, 1, 2, 2, 1, 1}, row{1, 2}, 1, 3},
		{row{1, 1, 2, 2, 1, 1}, nil, 3, 3},
		{row{1, 1, 2, 2, 1, 1}, nil, 6, 6},
		{row{1, 1, 2, 2, 1, 1}, nil, 0, 0},
		{row{1, 1, 2, 2, 1, 1}, nil, 0, 7},
		{row{1, 1, 2, 2, 1, 1}, nil, 4, 3},
		{row{1, 1, 2, 2, 1, 1}, nil, -1, 3},
		{nil, nil, 0, 0},
	} {
		for _, first := range []int{0, 10, -1, -2, -3, math.MinInt} {
			var asked row
			k := made(t, c.l)
			k.change(t, c.i, c.j, func(id int) int {
				asked = append(asked, id)
				return first + len(asked) - 1
			})
			if !slices.Equal(asked, c.asked) {
				t.Fatalf("of %d: Map(%d, %d) asked of %d, want %d", c.l, c.i, c.j, asked, c.asked)
			}
			k.check(t, "told another number each time")
		}
	}
}

func TestMapToWhatIsNone(t *testing.T) {
	for _, n := range []int{1, 2, 3, 9, 40} {
		k := made(t, rising(n))
		for _, at := range []int{0, n / 2, n - 1} {
			for _, wrong := range []int{-1, -2, -1 << 32, math.MinInt + 1, math.MinInt} {
				e := k.change(t, 0, n, func(id int) int {
					if id == at+5 {
						return wrong
					}
					return 1
				})
				if e != api.ErrMalformed {
					t.Fatalf("of %d: Map told %d for place %d: %d", n, wrong, at, e)
				}
			}
			k.change(t, at, at+1, func(int) int { return -1 })
			k.change(t, at, n, func(int) int { return -1 })
		}
		for _, i := range append(ends(), n+1, -3) {
			if wantReach(n, i, i) != 0 && k.change(t, i, i, func(int) int { return -1 }) != api.ErrRange {
				t.Fatalf("Map(%d, %d) is not ErrRange", i, i)
			}
		}
		k.check(t, "after what was refused")
	}
}

// A function that is not there, or panics, tells no number at all: Map neither panics nor changes anything.
func TestMapByWhatTellsNothing(t *testing.T) {
	panics := func(at int) func(int) int {
		return func(id int) int {
			if id == at+5 {
				panic("no number")
			}
			return 1
		}
	}
	for _, n := range []int{1, 2, 9} {
		k := made(t, rising(n))
		if e := k.s.Map(0, n, nil); e != api.ErrMalformed {
			t.Fatalf("of %d: Map by none %d", n, e)
		}
		for at := range n {
			if e := k.s.Map(0, n, panics(at)); e != api.ErrMalformed {
				t.Fatalf("of %d: Map by what panics at %d: %d", n, at, e)
			}
			if e := k.s.Map(at, at, nil); e != api.OK {
				t.Fatalf("of %d: Map of nothing by none: %d", n, e)
			}
		}
		if e := k.s.Map(0, n+1, nil); e != api.ErrRange {
			t.Fatalf("of %d: Map at no place by none: %d", n, e)
		}
		k.check(t, "after what was refused")
	}
}

// A function that looks at the spans sees them as they were; one that takes numbers out that Map is about makes it refuse.
func TestMapByWhatLooksAtTheSpans(t *testing.T) {
	k := made(t, row{1, 1, 2, 3, 3})
	k.change(t, 0, 5, func(id int) int {
		k.check(t, "looked at while mapped")
		return 7
	})
	k.check(t, "mapped")
	k = made(t, row{1, 1, 2, 3, 3})
	e := k.s.Map(1, 5, func(id int) int {
		k.splice(t, len(k.l)-1, len(k.l), nil)
		return 7
	})
	if e != api.ErrRange {
		t.Fatalf("Map of what is gone %d", e)
	}
	k.check(t, "taken out while mapped")
}

// P11.3

func TestAllBrokenOff(t *testing.T) {
	k := made(t, row{1, 1, 2, 3, 3, 1})
	for last, want := range of(2, 1, 1, 2, 2, 3, 1, 1) {
		told := 0
		k.s.All()(func(x api.Span) bool {
			if told == last && x != want || told > last {
				t.Fatalf("told %v as the %d-th, broken off at %d", x, told, last)
			}
			told++
			return told <= last
		})
		if told != last+1 {
			t.Fatalf("told %d, to be broken off at %d", told, last)
		}
	}
	k.check(t, "broken off")
}

func TestAllIsAskedAgain(t *testing.T) {
	k := made(t, row{1, 1, 2})
	all := k.s.All()
	for range 3 {
		if l := slices.Collect(all); !slices.Equal(l, of(2, 1, 1, 2)) {
			t.Fatalf("All %v", l)
		}
		for range all {
			break
		}
		for x := range all {
			if l := slices.Collect(all); !slices.Equal(l, of(2, 1, 1, 2)) {
				t.Fatalf("All within All, at %v, %v", x, l)
			}
		}
	}
	k.splice(t, 1, 3, of(4, 3))
	if l := slices.Collect(all); !slices.Equal(l, of(1, 1, 4, 3)) {
		t.Fatalf("All, asked ahead of a change, %v", l)
	}
	k.splice(t, 0, 5, nil)
	for x := range all {
		t.Fatalf("All, asked ahead of a change, tells %v", x)
	}
	zero := &Spans{}
	all = zero.All()
	zero.Splice(0, 0, of(2, 5))
	if l := slices.Collect(all); !slices.Equal(l, of(2, 5)) {
		t.Fatalf("All of a zero one, asked ahead of a change, %v", l)
	}
}

// Each span is told as it is then.
func TestAllWhileNumbersComeAndGo(t *testing.T) {
	for _, c := range []struct {
		what string
		do   func(s *Spans)
		want list
	}{
		{"the last one is changed", func(s *Spans) { s.Map(4, 6, func(int) int { return 9 }) }, of(2, 1, 2, 2, 2, 9)},
		{"the next one is longer", func(s *Spans) { s.Splice(3, 3, of(5, 2)) }, of(2, 1, 7, 2, 2, 3)},
		{"one comes behind", func(s *Spans) { s.Splice(6, 6, of(1, 4)) }, of(2, 1, 2, 2, 2, 3, 1, 4)},
		{"the next one goes", func(s *Spans) { s.Splice(2, 4, nil) }, of(2, 1, 2, 3)},
		{"all behind go", func(s *Spans) { s.Splice(2, 6, nil) }, of(2, 1)},
		{"all go", func(s *Spans) { s.Splice(0, 6, nil) }, of(2, 1)},
		{"it is changed itself", func(s *Spans) { s.Map(0, 2, func(int) int { return 9 }) }, of(2, 1, 2, 2, 2, 3)},
	} {
		s := made(t, row{1, 1, 2, 2, 3, 3}).s
		var got list
		for x := range s.All() {
			if got = append(got, x); len(got) == 1 {
				c.do(s)
			}
		}
		if !slices.Equal(got, c.want) {
			t.Fatalf("%s: All %v, want %v", c.what, got, c.want)
		}
	}
}

func TestAllLeavesAPanicToTheCaller(t *testing.T) {
	k := made(t, row{1, 2, 3})
	defer func() {
		if r := recover(); r != "mine" {
			t.Fatalf("recovered %v", r)
		}
		k.check(t, "panicked within All")
	}()
	for range k.s.All() {
		panic("mine")
	}
}

// Copies go their own way, and so do copies of copies.
func TestCopies(t *testing.T) {
	by := rule(9)
	for _, n := range []int{0, 1, 5, 40, 200} {
		k := made(t, by.row(n))
		all := []*known{k, k.copy(t), k.copy(t)}
		all = append(all, all[1].copy(t))
		for step := range 150 {
			p := all[step%len(all)]
			i := by.next(len(p.l) + 1)
			j := i + by.next(min(8, len(p.l)-i+1))
			if step%3 == 0 {
				p.change(t, i, j, func(id int) int { return (id + step) % 5 })
			} else {
				p.splice(t, i, j, pieces(by.row(by.next(9)))[step%4])
			}
			for _, q := range all {
				q.numbers(t, "gone its own way")
			}
		}
		for _, p := range all {
			p.splice(t, 0, len(p.l), nil)
			for _, q := range all {
				q.numbers(t, "another one emptied")
			}
		}
	}
}

func TestHeightOfOneSpan(t *testing.T) {
	for _, n := range []int{1, 2, 3, 100, most} {
		s := New()
		s.Splice(0, 0, of(n, 1))
		if h := s.Height(); h < 1 || h > 2 {
			t.Fatalf("Height %d of one span of %d", h, n)
		}
	}
}

func TestNumberByNumber(t *testing.T) {
	by := rule(4)
	for what, place := range map[string]func(n int) int{
		"at the front":     func(n int) int { return 0 },
		"behind":           func(n int) int { return n },
		"ahead of the end": func(n int) int { return max(0, n-1) },
		"behind the first": func(n int) int { return min(1, n) },
		"in the midst":     func(n int) int { return n / 2 },
		"at one place":     func(n int) int { return min(40, n) },
		"here and there":   func(n int) int { return n * 7919 % (n + 1) },
		"by a rule":        func(n int) int { return by.next(n + 1) },
	} {
		for _, ids := range []int{1, 2, 3, 1000} {
			k := made(t, nil)
			for n := range 300 {
				i := place(n)
				k.splice(t, i, i, of(1, by.next(ids)))
				k.numbers(t, what)
			}
			k.check(t, what)
			for len(k.l) > 0 {
				i := min(place(len(k.l)), len(k.l)-1)
				k.splice(t, i, i+1, nil)
				k.numbers(t, "taken out "+what)
			}
		}
	}
}

func TestHeightOfLongOnes(t *testing.T) {
	by := rule(11)
	s := New()
	for n := range 20000 {
		i := []int{0, s.Len(), s.Len() / 2, by.next(s.Len() + 1)}[n/5000]
		if e := s.Splice(i, i, of(1+n%3, n)); e != api.OK {
			t.Fatalf("Splice(%d) %d", i, e)
		}
		checkHeight(t, "put in one by one", s)
	}
	c := s.Copy()
	for c.Count() > 1 {
		if e := c.Map(by.next(c.Len()/2+1), c.Len()/2+by.next(c.Len()/2+1), func(id int) int { return id / 2 }); e != api.OK {
			t.Fatalf("Map %d", e)
		}
		if by.next(5) == 0 {
			c.Map(0, c.Len(), func(id int) int { return id / 4 })
		}
		checkHeight(t, "made alike", c)
	}
	for s.Len() > 0 {
		i := by.next(s.Len())
		if e := s.Splice(i, min(s.Len(), i+1+by.next(9)), nil); e != api.OK {
			t.Fatalf("Splice %d", e)
		}
		checkHeight(t, "taken out", s)
	}
}

func TestHeightOfWhatIsLeft(t *testing.T) {
	for _, keep := range []int{1, 2, 7, 31} {
		k := made(t, rising(3000))
		for i := 0; i < len(k.l); i += keep {
			k.splice(t, i, min(len(k.l), i+60), nil)
			checkHeight(t, "little left here and there", k.s)
		}
		k.check(t, "little left here and there")
	}
	for n := 1; n < 1500; n = n*3/2 + 1 {
		k := made(t, rising(1500))
		k.change(t, 0, n, func(int) int { return 1 })
		checkHeight(t, "one at the front", k.s)
		k.change(t, 1500-n, 1500, func(int) int { return 2 })
		k.numbers(t, "one at the front, one behind")
	}
}

// What is refused changes nothing, and beside an error there is nothing.
func TestRefused(t *testing.T) {
	for _, n := range []int{0, 1, 33, 90} {
		k := made(t, rows(n)[6])
		height := k.s.Height()
		for _, i := range append(ends(), -3, n+1, n+2) {
			if 0 <= i && i <= n {
				continue
			}
			k.at(t, "refused", i)
			k.over(t, "refused", i, i)
			k.over(t, "refused", min(i, 0), max(i, n))
			k.splice(t, i, i, of(1, 1))
			k.splice(t, min(i, 0), max(i, n), nil)
			k.change(t, i, i, func(int) int { return 1 })
			k.change(t, min(i, 0), max(i, n), func(int) int { return 1 })
		}
		k.at(t, "refused", n)
		k.over(t, "refused", 1, 0)
		k.over(t, "refused", n/2+1, n/2)
		k.splice(t, 1, 0, nil)
		k.splice(t, n, n-1, of(1, 1))
		k.change(t, n/2+1, n/2, func(int) int { return 1 })
		k.check(t, "after what was refused")
		if k.s.Height() != height {
			t.Fatalf("refused, and the height is %d, and was %d", k.s.Height(), height)
		}
	}
}

func TestRefusedLeavesAZeroOneZero(t *testing.T) {
	var s Spans
	s.Splice(1, 1, nil)
	s.Splice(0, 1, nil)
	s.Splice(0, 0, of(-1, 0))
	s.Splice(0, 0, of(most+1, 0))
	s.Map(0, 1, func(int) int { return 1 })
	s.Map(0, 1, nil)
	s.At(0)
	s.Over(0, 0)
	s.Over(0, 1)
	s.Len()
	s.Count()
	s.Height()
	s.Copy()
	for range s.All() {
		t.Fatal("All of a zero one tells something")
	}
	if s != (Spans{}) {
		t.Fatal("it is not zero any more")
	}
}

func TestOnesThatAreNotThere(t *testing.T) {
	var s *Spans
	if n, m, h, c := s.Len(), s.Count(), s.Height(), s.Copy(); n != 0 || m != 0 || h != 0 || c != nil {
		t.Fatalf("Len %d, Count %d, Height %d, Copy %v", n, m, h, c)
	}
	if s.All() == nil {
		t.Fatal("All is nil")
	}
	for range s.All() {
		t.Fatal("All tells something")
	}
	asks := func(int) int {
		t.Fatal("f is asked")
		return 0
	}
	for _, i := range places(2) {
		if id, e := s.At(i); id != 0 || e != api.ErrNil {
			t.Fatalf("At(%d) %d, %d", i, id, e)
		}
		for _, j := range []int{math.MinInt, -1, 0, 1, math.MaxInt} {
			if l, e := s.Over(i, j); len(l) != 0 || e != api.ErrNil {
				t.Fatalf("Over(%d, %d) %v, %d", i, j, l, e)
			}
			for _, f := range []func(int) int{nil, asks} {
				if e := s.Map(i, j, f); e != api.ErrNil {
					t.Fatalf("Map(%d, %d) %d", i, j, e)
				}
			}
			for _, l := range []list{nil, {}, of(1, 1), of(-1, 1), of(1, -1), of(most+1, 1)} {
				if e := s.Splice(i, j, l); e != api.ErrNil {
					t.Fatalf("Splice(%d, %d, %v) %d", i, j, l, e)
				}
			}
		}
	}
}

// Long rows of calls

// TestAllShortRows goes through all rows of steps.
func TestAllShortRows(t *testing.T) {
	steps := []func(k *known){
		func(k *known) { k.splice(t, 0, 0, of(2, 1)) },
		func(k *known) { k.splice(t, len(k.l), len(k.l), of(1, 1, 0, 3, 1, 2)) },
		func(k *known) { k.splice(t, len(k.l)/2, len(k.l)/2, of(1, 2, 1, 3, 2, 1)) },
		func(k *known) { k.splice(t, min(1, len(k.l)), min(2, len(k.l)), of(1, 3)) },
		func(k *known) { k.splice(t, 0, min(1, len(k.l)), nil) },
		func(k *known) { k.splice(t, len(k.l)/3, len(k.l)/3*2, nil) },
		func(k *known) { k.splice(t, len(k.l)/2, len(k.l), of(1, 1)) },
		func(k *known) { k.change(t, 0, len(k.l), func(id int) int { return 3 - id }) },
		func(k *known) { k.change(t, len(k.l)/3, len(k.l), func(int) int { return 2 }) },
		func(k *known) { k.change(t, 0, len(k.l)/2, func(id int) int { return id / 2 }) },
		func(k *known) { k.splice(t, len(k.l)/4, len(k.l), of(1, 1, 0, -1)) },
		func(k *known) { k.change(t, 0, len(k.l), func(id int) int { return id - 2 }) },
	}
	var goOn func(k *known, left int)
	goOn = func(k *known, left int) {
		for n, step := range steps {
			o := k.copy(t)
			step(o)
			o.numbers(t, fmt.Sprintf("step %d, %d left", n, left))
			if left > 0 {
				goOn(o, left-1)
			}
		}
	}
	goOn(&known{s: &Spans{}}, 3)
}

func TestLongRows(t *testing.T) {
	for first := range 8 {
		by := rule(first)
		pool := []*known{made(t, nil), {s: &Spans{}}, made(t, by.row(50)), made(t, by.row(300))}
		for step := range 2000 {
			k := pool[by.next(len(pool))]
			if by.next(12) == 0 {
				pool[by.next(len(pool))] = k.copy(t)
			}
			k.step(t, &by)
			k.numbers(t, fmt.Sprintf("row %d, step %d", first, step))
			if step%100 == 0 {
				for _, p := range pool {
					p.check(t, fmt.Sprintf("row %d, step %d", first, step))
				}
			}
		}
	}
}

// step does something to the spans, at places of which some are none.
func (k *known) step(t *testing.T, by *rule) {
	t.Helper()
	i := by.next(len(k.l)+3) - 1
	j := i + by.next(min(len(k.l), 12)+2) - 1
	in := pieces(by.row(by.next(12)))[by.next(4)]
	switch by.next(10) {
	case 0:
		k.splice(t, i, i+by.next(len(k.l)/2+40), nil)
	case 1:
		k.splice(t, i, i, pieces(by.row(by.next(100)))[by.next(4)])
	case 2:
		in = append(in, of(-1, 1, 1, -1, 0, -1, most, 1, math.MaxInt, 2)[by.next(5)])
		k.splice(t, i, j, in)
	case 3:
		k.change(t, i, i+by.next(len(k.l)/2+40), func(id int) int { return (id + 1) % 4 })
	case 4:
		k.change(t, i, j, func(id int) int { return by.next(12) - 1 })
	case 5:
		k.change(t, i, j, func(int) int { return 1 })
	case 6:
		k.splice(t, i, j, nil)
	default:
		k.splice(t, i, j, in)
	}
}
