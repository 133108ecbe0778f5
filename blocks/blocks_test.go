package blocks

import (
	"fmt"
	"math"
	"math/big"
	"slices"
	"strings"
	"testing"

	"rubric/api"
	"rubric/value"
)

// The signatures are the chapter's.
var (
	_ func([]api.Block) bool                    = Proper
	_ func([]api.Block) []api.Block             = Join
	_ func([]api.Cell) []api.Block              = Of
	_ func([]api.Block) int                     = Len
	_ func([]api.Block, int) ([]api.Attr, bool) = At
	_ func([]api.Block, int, int) []api.Block   = Cut
)

type (
	set  = []api.Attr
	list = []api.Block
)

// The model: the chapter's words, said of a plain list of sets, place by place.

// same takes no set that is nil for another one than an empty one.
func same(a, b set) bool {
	if len(a) != len(b) {
		return false
	}
	for i := range a {
		v, w := a[i].Value, b[i].Value
		if a[i].Key != b[i].Key || v.Kind != w.Kind || v.N != w.N || v.F != w.F || v.S != w.S {
			return false
		}
	}
	return true
}

func sameBlock(a, b api.Block) bool {
	return a.N == b.N && same(a.Set, b.Set)
}

func sameList(a, b list) bool {
	return slices.EqualFunc(a, b, sameBlock)
}

// placesOf answers the set at each place; a length below 0 is none.
func placesOf(l list) []set {
	var p []set
	for _, x := range l {
		for i := 0; i < x.N; i++ {
			p = append(p, x.Set)
		}
	}
	return p
}

// blocksOf answers the greatest blocks of places side by side that have one set.
func blocksOf(p []set) list {
	var l list
	for begin := 0; begin < len(p); {
		end := begin + 1
		for end < len(p) && same(p[begin], p[end]) {
			end++
		}
		l = append(l, api.Block{N: end - begin, Set: p[begin]})
		begin = end
	}
	return l
}

func wantProper(l list) bool {
	for i := range l {
		if l[i].N < 1 {
			return false
		}
		if i+1 < len(l) && same(l[i].Set, l[i+1].Set) {
			return false
		}
	}
	return true
}

// wantCut answers the blocks of the places from i on, below j.
func wantCut(p []set, i, j int) list {
	var part []set
	for at := range p {
		if i <= at && at < j {
			part = append(part, p[at])
		}
	}
	return blocksOf(part)
}

func hasBelowZero(l list) bool {
	return slices.ContainsFunc(l, func(x api.Block) bool { return x.N < 0 })
}

// The other model, of blocks that are too long to be gone over place by place: numbers without bounds.

func number(n int) *big.Int {
	return big.NewInt(int64(n))
}

func fits(n *big.Int) int {
	if n.Cmp(number(math.MaxInt)) > 0 {
		return math.MaxInt
	}
	return int(n.Int64())
}

// part answers how many places from i on, below j, lie among n places from begin on.
func part(begin, n *big.Int, i, j int) *big.Int {
	from, to := number(i), number(j)
	if from.Cmp(begin) < 0 {
		from = begin
	}
	if end := new(big.Int).Add(begin, n); to.Cmp(end) > 0 {
		to = end
	}
	if from.Cmp(to) >= 0 {
		return number(0)
	}
	return new(big.Int).Sub(to, from)
}

func bigLen(l list) *big.Int {
	n := number(0)
	for _, x := range l {
		n.Add(n, number(x.N))
	}
	return n
}

func bigAt(l list, i int) (set, bool) {
	begin := number(0)
	for _, x := range l {
		n := number(x.N)
		if i < math.MaxInt && part(begin, n, i, i+1).Sign() > 0 {
			return x.Set, true
		}
		begin.Add(begin, n)
		if i == math.MaxInt && begin.Cmp(number(i)) > 0 {
			return x.Set, true
		}
	}
	return nil, false
}

// joined answers blocks of those lengths; what has no places is left out.
func joined(lengths []*big.Int, sets []set) list {
	var l list
	var together []*big.Int
	for i, n := range lengths {
		last := len(l) - 1
		switch {
		case n.Sign() <= 0:
		case last >= 0 && same(l[last].Set, sets[i]):
			together[last].Add(together[last], n)
			l[last].N = fits(together[last])
		default:
			together = append(together, new(big.Int).Set(n))
			l = append(l, api.Block{N: fits(n), Set: sets[i]})
		}
	}
	return l
}

func bigJoin(l list) list {
	var lengths []*big.Int
	var sets []set
	for _, x := range l {
		lengths, sets = append(lengths, number(x.N)), append(sets, x.Set)
	}
	return joined(lengths, sets)
}

func bigCut(l list, i, j int) list {
	var lengths []*big.Int
	var sets []set
	begin := number(0)
	for _, x := range l {
		n := number(x.N)
		lengths, sets = append(lengths, part(begin, n, i, j)), append(sets, x.Set)
		begin = new(big.Int).Add(begin, n)
	}
	return joined(lengths, sets)
}

// Sets and lists that the tests go over.

func text(s string) api.Value {
	return api.Value{Kind: api.ValText, S: s}
}

func flag(key int) set {
	return set{{Key: key, Value: value.Flag(true)}}
}

// many answers a set of n attributes.
func many(n int) set {
	var l set
	for i := range n {
		l = append(l, api.Attr{Key: 2*i + 1, Value: value.Int(int64(i))})
	}
	return l
}

// butOne answers the set with another value at i.
func butOne(l set, i int) set {
	l = slices.Clone(l)
	l[i].Value = value.Int(-1)
	return l
}

// sets are no two alike, and in memory of their own at each call. Also some that are no sets are among them: what may be is not asked here.
func sets() []set {
	one := func(key int, v api.Value) set { return set{{Key: key, Value: v}} }
	return []set{
		nil,
		flag(1),
		one(1, value.Int(2)),
		one(1, value.Flag(false)),
		one(1, value.Int(1)),
		one(1, value.Int(0)),
		one(1, value.Int(math.MinInt64)),
		one(1, value.Float(0)),
		one(1, value.Float(math.Copysign(0, -1))),
		one(1, value.Float(math.NaN())),
		one(1, value.Float(math.Inf(1))),
		one(1, text("")),
		one(1, text("a")),
		one(1, text("b")),
		one(1, text("ab")),
		one(1, text(strings.Repeat("a", 64))),
		one(1, api.Value{}),
		one(1, api.Value{Kind: 9, N: 1, F: 1, S: "\xff"}),
		one(1, api.Value{Kind: 9, N: 1, F: 2, S: "\xff"}),
		one(1, api.Value{Kind: 3, F: api.NaN + 1}),
		flag(2),
		flag(0),
		flag(-1),
		flag(math.MaxInt),
		flag(math.MinInt),
		slices.Concat(flag(1), flag(2)),
		slices.Concat(flag(2), flag(1)),
		slices.Concat(flag(1), flag(1)),
		slices.Concat(flag(1), flag(3)),
		slices.Concat(flag(1), flag(2), flag(3)),
		many(63), many(64), many(65),
		butOne(many(64), 0), butOne(many(64), 31), butOne(many(64), 63),
	}
}

// of answers blocks: of each how many, and which of the sets.
func of(pairs ...int) list {
	s := sets()
	var l list
	for i := 0; i+1 < len(pairs); i += 2 {
		l = append(l, api.Block{N: pairs[i], Set: slices.Clone(s[pairs[i+1]])})
	}
	return l
}

// lists are all lists of n of those blocks.
func lists(of list, n int) []list {
	l := []list{nil}
	for range n {
		var longer []list
		for _, x := range l {
			for _, b := range of {
				longer = append(longer, append(slices.Clone(x), b))
			}
		}
		l = longer
	}
	return l
}

// pairsOf are blocks of each of these lengths with each of the first n sets.
func pairsOf(lengths []int, n int) list {
	var l list
	for _, s := range sets()[:n] {
		for _, length := range lengths {
			l = append(l, api.Block{N: length, Set: s})
		}
	}
	return l
}

// ends are numbers of no place, at both ends of an int and of shorter ones.
func ends() []int {
	return []int{math.MinInt, math.MinInt + 1, math.MinInt32 - 1, math.MinInt32, -256, math.MaxInt32, math.MaxInt32 + 1, 1 << 32, 1<<32 + 1, math.MaxInt - 1, math.MaxInt}
}

// places are those numbers, and all about n places.
func places(n int) []int {
	at := ends()
	for i := -2; i <= n+2; i++ {
		at = append(at, i)
	}
	return at
}

// rule is a row of numbers that looks like chance and is the same at each run.
type rule uint64

func (r *rule) next(n int) int {
	*r = *r*6364136223846793005 + 1442695040888963407
	return int(uint64(*r) >> 33 % uint64(n))
}

// list answers n blocks by the rule, with lengths below most, many of which have the set of the one ahead of them.
func (r *rule) list(n, most int) list {
	s := sets()
	l := make(list, n)
	which := 0
	for i := range l {
		if r.next(3) > 0 {
			which = r.next(5)
		}
		l[i] = api.Block{N: r.next(most), Set: slices.Clone(s[which])}
	}
	return l
}

// Memory: each call is handed lists in memory of their own, with room behind them, which must not be written to, and is written over when the call has come back.

func mark() api.Attr {
	return api.Attr{Key: 777, Value: text("mark")}
}

func lendSet(s set) set {
	if s == nil {
		return nil
	}
	return slices.Concat(s, set{mark(), mark()})[: len(s) : len(s)+2]
}

func lend(l list) list {
	in := make(list, len(l), len(l)+2)
	for i, x := range l {
		in[i] = api.Block{N: x.N, Set: lendSet(x.Set)}
	}
	room := in[:cap(in)]
	for i := len(in); i < len(room); i++ {
		room[i] = api.Block{N: 777, Set: set{mark()}}
	}
	return in
}

func lendCells(d []api.Cell) []api.Cell {
	in := make([]api.Cell, len(d), len(d)+2)
	for i, c := range d {
		in[i] = api.Cell{R: c.R, Set: lendSet(c.Set)}
	}
	room := in[:cap(in)]
	for i := len(in); i < len(room); i++ {
		room[i] = api.Cell{R: 777, Set: set{mark()}}
	}
	return in
}

func isLentSet(in, s set) bool {
	return s == nil && in == nil || same(in, s) && same(in[len(s):len(s)+2], set{mark(), mark()})
}

// takeBack holds that nothing was written to, and writes over all of it.
func takeBack(t *testing.T, what string, in, l list) {
	t.Helper()
	for i, x := range in[:cap(in)] {
		if i < len(l) && (x.N != l[i].N || !isLentSet(x.Set, l[i].Set)) {
			t.Fatalf("%s wrote to what it was handed in: %v, and it was %v", what, in, l)
		}
		if i >= len(l) && !sameBlock(x, api.Block{N: 777, Set: set{mark()}}) {
			t.Fatalf("%s wrote behind what it was handed in: %v", what, x)
		}
	}
	overwrite(in)
}

func takeCellsBack(t *testing.T, in, d []api.Cell) {
	t.Helper()
	for i, c := range in[:cap(in)] {
		if i < len(d) && (c.R != d[i].R || !isLentSet(c.Set, d[i].Set)) {
			t.Fatalf("Of wrote to what it was handed in: %v, and it was %v", in, d)
		}
		if i >= len(d) && (c.R != 777 || !same(c.Set, set{mark()})) {
			t.Fatalf("Of wrote behind what it was handed in: %v", c)
		}
		overwriteSet(c.Set)
		in[:cap(in)][i] = api.Cell{R: 10}
	}
}

func overwriteSet(s set) {
	s = s[:cap(s)]
	for i := range s {
		s[i] = api.Attr{Key: 999, Value: text("written over")}
	}
}

func overwrite(l list) {
	l = l[:cap(l)]
	for i, x := range l {
		overwriteSet(x.Set)
		l[i] = api.Block{N: -9, Set: flag(999)}
	}
}

func callProper(t *testing.T, l list) bool {
	t.Helper()
	in := lend(l)
	ok := Proper(in)
	takeBack(t, "Proper", in, l)
	return ok
}

func callJoin(t *testing.T, l list) list {
	t.Helper()
	in := lend(l)
	told := Join(in)
	takeBack(t, "Join", in, l)
	return told
}

func callOf(t *testing.T, d []api.Cell) list {
	t.Helper()
	in := lendCells(d)
	told := Of(in)
	takeCellsBack(t, in, d)
	return told
}

func callLen(t *testing.T, l list) int {
	t.Helper()
	in := lend(l)
	n := Len(in)
	takeBack(t, "Len", in, l)
	return n
}

func callAt(t *testing.T, l list, i int) (set, bool) {
	t.Helper()
	in := lend(l)
	told, ok := At(in, i)
	takeBack(t, "At", in, l)
	return told, ok
}

func callCut(t *testing.T, l list, i, j int) list {
	t.Helper()
	in := lend(l)
	told := Cut(in, i, j)
	takeBack(t, "Cut", in, l)
	return told
}

// show answers how a long list begins.
func show(l any) string {
	s := fmt.Sprint(l)
	return s[:min(len(s), 600)]
}

// Checks. Each test ends at its first fault: the rows are long, and what is wrong with one is wrong with many.

func checkList(t *testing.T, what string, told, want list) {
	t.Helper()
	if !sameList(told, want) {
		t.Fatalf("%s: %s; want %s", what, show(told), show(want))
	}
}

func checkProper(t *testing.T, l list) {
	t.Helper()
	if ok, want := callProper(t, l), wantProper(l); ok != want {
		t.Fatalf("Proper of %s: %v; want %v", show(l), ok, want)
	}
}

func checkJoin(t *testing.T, l, want list) {
	t.Helper()
	told := callJoin(t, l)
	if !sameList(told, want) {
		t.Fatalf("Join of %s: %s; want %s", show(l), show(told), show(want))
	}
	if !wantProper(told) || !callProper(t, told) {
		t.Fatalf("Join of %s: %s: not proper", show(l), show(told))
	}
}

func checkLen(t *testing.T, l list, want int) {
	t.Helper()
	if n := callLen(t, l); n != want {
		t.Fatalf("Len of %s: %d; want %d", show(l), n, want)
	}
}

func checkAt(t *testing.T, l list, i int, want set, there bool) {
	t.Helper()
	told, ok := callAt(t, l, i)
	if ok != there || !same(told, want) {
		t.Fatalf("At of %s, %d: %v, %v; want %v, %v", show(l), i, told, ok, want, there)
	}
}

func checkCut(t *testing.T, l list, i, j int, want list) {
	t.Helper()
	told := callCut(t, l, i, j)
	if !sameList(told, want) {
		t.Fatalf("Cut of %s from %d to %d: %s; want %s", show(l), i, j, show(told), show(want))
	}
	if !wantProper(told) {
		t.Fatalf("Cut of %s from %d to %d: %s: not proper", show(l), i, j, show(told))
	}
}

// checkPlaces holds what is told of each place against the plain list of sets.
func checkPlaces(t *testing.T, l list) {
	t.Helper()
	p := placesOf(l)
	checkLen(t, l, len(p))
	for _, i := range places(len(p)) {
		if 0 <= i && i < len(p) {
			checkAt(t, l, i, p[i], true)
		} else {
			checkAt(t, l, i, nil, false)
		}
	}
}

func checkCuts(t *testing.T, l list) {
	t.Helper()
	p := placesOf(l)
	for _, i := range places(len(p)) {
		for _, j := range places(len(p)) {
			checkCut(t, l, i, j, wantCut(p, i, j))
		}
	}
}

// checkWide holds all calls against numbers without bounds, at places about each block's ends and those of an int.
func checkWide(t *testing.T, l list) {
	t.Helper()
	at := append(ends(), -1, 0, 1, 2, 1<<62)
	begin := number(0)
	for _, x := range l {
		begin.Add(begin, number(x.N))
		if begin.IsInt64() {
			n := int(begin.Int64())
			at = append(at, n-1, n, n+min(1, math.MaxInt-n))
		}
	}
	slices.Sort(at)
	at = slices.Compact(at)
	checkProper(t, l)
	checkJoin(t, l, bigJoin(l))
	checkLen(t, l, fits(bigLen(l)))
	for _, i := range at {
		want, there := bigAt(l, i)
		checkAt(t, l, i, want, there)
		for _, j := range at {
			checkCut(t, l, i, j, bigCut(l, i, j))
		}
	}
}

// checkEnds holds that all calls end, whatever is answered.
func checkEnds(t *testing.T, l list) {
	t.Helper()
	callLen(t, l)
	at := append(ends(), -1, 0, 1, 2, 3)
	for _, i := range at {
		callAt(t, l, i)
		for _, j := range at {
			callCut(t, l, i, j)
		}
	}
}

func TestExamples(t *testing.T) {
	const none, x, y = 0, 1, 2
	checkList(t, "Join", callJoin(t, of(2, x, 0, y, 3, x)), of(5, x))
	bold := flag(1)
	d := []api.Cell{{R: 'a', Set: bold}, {R: 'b', Set: bold}, {R: 10}, {R: 'c'}}
	checkList(t, "Of", callOf(t, d), list{{N: 2, Set: bold}, {N: 2}})
	checkList(t, "Cut", callCut(t, of(5, x, 2, y), 4, 6), of(1, x, 1, y))
}

// The rows that the tests hold the package against are held against the chapter's words, and each other.
func TestRowsOfTheTests(t *testing.T) {
	for i, a := range sets() {
		for j, b := range sets() {
			if same(a, b) != (i == j) {
				t.Errorf("sets %d and %d, %v and %v: same: %v", i, j, a, b, same(a, b))
			}
		}
	}
	for _, l := range lists(pairsOf([]int{0, 1, 2}, 2), 3) {
		p := placesOf(l)
		if !bigLen(l).IsInt64() || bigLen(l).Int64() != int64(len(p)) || !sameList(bigJoin(l), blocksOf(p)) {
			t.Fatalf("the models tell %v and %v of %v", bigJoin(l), blocksOf(p), l)
		}
		for i := -1; i <= len(p)+1; i++ {
			s, ok := bigAt(l, i)
			if there := 0 <= i && i < len(p); ok != there || ok && !same(s, p[i]) {
				t.Fatalf("the models tell %v, %v of %v at %d", s, ok, l, i)
			}
			for j := -1; j <= len(p)+1; j++ {
				if !sameList(bigCut(l, i, j), wantCut(p, i, j)) {
					t.Fatalf("the models tell %v and %v of %v from %d to %d", bigCut(l, i, j), wantCut(p, i, j), l, i, j)
				}
			}
		}
	}
}

func TestNothing(t *testing.T) {
	for _, l := range []list{nil, {}, of(1, 1)[:0]} {
		if !Proper(l) {
			t.Errorf("no blocks are not proper")
		}
		if n := Len(l); n != 0 {
			t.Errorf("no blocks have %d places", n)
		}
		if told := Join(l); len(told) != 0 {
			t.Errorf("Join of no blocks: %v", told)
		}
		for _, i := range places(0) {
			if told, ok := At(l, i); ok || len(told) != 0 {
				t.Errorf("At of no blocks, %d: %v, %v", i, told, ok)
			}
			for _, j := range places(0) {
				if told := Cut(l, i, j); len(told) != 0 {
					t.Errorf("Cut of no blocks from %d to %d: %v", i, j, told)
				}
			}
		}
	}
	for _, d := range [][]api.Cell{nil, {}, make([]api.Cell, 3)[:0]} {
		if told := Of(d); len(told) != 0 {
			t.Errorf("Of of no cells: %v", told)
		}
	}
}

// P12.1

func TestProperInWords(t *testing.T) {
	const none, x, y = 0, 1, 2
	cases := []struct {
		l    list
		want bool
	}{
		{of(1, none), true},
		{of(1, x), true},
		{of(5, x, 2, y), true},
		{of(1, x, 1, none, 1, x), true},
		{of(1, none, 1, x, 1, none), true},
		{of(1, x, 1, y, 1, x, 1, y), true},
		{of(1, x, 1, x), false},
		{of(1, none, 1, none), false},
		{of(2, y, 1, x, 1, x), false},
		{of(1, x, 1, x, 2, y), false},
		{of(2, y, 1, x, 3, x, 2, y), false},
		{of(1, x, 1, x, 1, x, 1, x), false},
		{of(0, none), false},
		{of(0, x), false},
		{of(0, x, 1, y), false},
		{of(1, y, 0, x), false},
		{of(1, y, 0, x, 1, y), false},
		{of(1, none, 0, x, 1, y), false},
		{of(0, x, 0, y, 0, x), false},
		{of(-1, x), false},
		{of(-1, x, 1, y), false},
		{of(1, y, -1, x), false},
		{of(1, y, -1, x, 1, none), false},
		{of(math.MinInt, x, 1, y), false},
		{of(math.MaxInt, x), true},
		{of(math.MaxInt, x, math.MaxInt, y), true},
		{of(math.MaxInt, x, math.MaxInt, x), false},
		{list{{N: 1, Set: nil}, {N: 1, Set: set{}}}, false},
		{list{{N: 1, Set: set{}}, {N: 1, Set: flag(1)}, {N: 1, Set: nil}}, true},
	}
	for _, c := range cases {
		if ok := callProper(t, c.l); ok != c.want || wantProper(c.l) != c.want {
			t.Errorf("Proper of %v: %v; want %v", c.l, ok, c.want)
		}
	}
}

func TestJoinInWords(t *testing.T) {
	const none, x, y = 0, 1, 2
	cases := []struct{ l, want list }{
		{of(1, none), of(1, none)},
		{of(7, x), of(7, x)},
		{of(0, x), nil},
		{of(0, none, 0, x, 0, y), nil},
		{of(-1, x), nil},
		{of(1, x, 1, x), of(2, x)},
		{of(1, x, 2, x, 3, x, 4, x), of(10, x)},
		{of(1, none, 2, none), of(3, none)},
		{of(1, x, 2, none, 3, x), of(1, x, 2, none, 3, x)},
		{of(1, x, 2, x, 3, y, 4, y, 5, none, 6, none, 7, x), of(3, x, 7, y, 11, none, 7, x)},
		{of(0, x, 1, y), of(1, y)},
		{of(1, y, 0, x), of(1, y)},
		{of(1, y, 0, x, 2, none), of(1, y, 2, none)},
		{of(1, y, 0, x, 2, y), of(3, y)},
		{of(1, y, 0, y, 2, y), of(3, y)},
		{of(1, y, 0, x, 0, none, 0, x, 2, y), of(3, y)},
		{of(0, y, 1, x, 0, y, 2, x, 0, y), of(3, x)},
		{of(2, x, -5, y, 3, x), of(5, x)},
		{of(2, x, -5, x, 3, x), of(5, x)},
		{of(math.MinInt, x, 2, x, math.MinInt, x), of(2, x)},
		{list{{N: 1, Set: nil}, {N: 2, Set: set{}}}, of(3, none)},
		{list{{N: 1, Set: set{}}, {N: 2, Set: nil}, {N: 1, Set: flag(1)}}, of(3, none, 1, x)},
	}
	for _, c := range cases {
		checkJoin(t, c.l, c.want)
	}
}

// TestAllShortLists goes over all lists of up to five blocks, those with a length of 0 among them.
func TestAllShortLists(t *testing.T) {
	for n := range 4 {
		for _, l := range lists(pairsOf([]int{0, 1, 2}, 3), n) {
			checkProper(t, l)
			checkJoin(t, l, blocksOf(placesOf(l)))
			checkPlaces(t, l)
			checkCuts(t, l)
		}
	}
	for _, l := range lists(pairsOf([]int{0, 1, 3}, 2), 5) {
		checkProper(t, l)
		checkJoin(t, l, blocksOf(placesOf(l)))
		checkPlaces(t, l)
	}
}

// TestLengthsBelowZero: Proper says that they are none, Join leaves them out, and the other calls end.
func TestLengthsBelowZero(t *testing.T) {
	for n := range 4 {
		for _, l := range lists(pairsOf([]int{math.MinInt, -1, 0, 1, 2}, 2), n) {
			if !hasBelowZero(l) {
				continue
			}
			if callProper(t, l) {
				t.Fatalf("Proper of %v: true", l)
			}
			checkJoin(t, l, blocksOf(placesOf(l)))
			checkEnds(t, l)
		}
	}
	for _, l := range lists(pairsOf([]int{math.MinInt, -1, 1, math.MaxInt}, 2), 3) {
		if !hasBelowZero(l) {
			continue
		}
		if callProper(t, l) {
			t.Fatalf("Proper of %v: true", l)
		}
		checkJoin(t, l, bigJoin(l))
		checkEnds(t, l)
	}
}

// TestSetsByWhatTheyAre lays each two sets side by side, in memory of their own.
func TestSetsByWhatTheyAre(t *testing.T) {
	for i, a := range sets() {
		for j, b := range sets() {
			l := list{{N: 2, Set: a}, {N: 3, Set: b}}
			if ok := callProper(t, l); ok != (i != j) {
				t.Fatalf("Proper of %v: %v", l, ok)
			}
			l = append(l, api.Block{N: 1, Set: a}, api.Block{N: 0, Set: b}, api.Block{N: 1, Set: sets()[i]})
			checkProper(t, l)
			checkJoin(t, l, blocksOf(placesOf(l)))
			checkPlaces(t, l)
			checkCut(t, l, 1, 6, wantCut(placesOf(l), 1, 6))
			checkOf(t, []api.Cell{{R: 'a', Set: a}, {R: 'b', Set: b}, {R: 'b', Set: sets()[j]}, {R: 'c', Set: a}})
		}
	}
}

// TestSetsThatLieInOnePlace: sets that begin at one place, but are not as long, are not the same; the very same one is.
func TestSetsThatLieInOnePlace(t *testing.T) {
	s := many(4)
	l := list{{N: 1, Set: s[:1]}, {N: 1, Set: s[:2]}, {N: 1, Set: s[:2:2]}, {N: 1, Set: s}, {N: 1, Set: s}, {N: 1, Set: s[:0]}, {N: 1, Set: s[1:1]}, {N: 1, Set: s[1:]}}
	if Proper(l) || !Proper(l[:2]) || Proper(l[1:3]) || Proper(l[3:5]) || Proper(l[5:7]) {
		t.Error("Proper")
	}
	want := list{{N: 1, Set: s[:1]}, {N: 2, Set: s[:2]}, {N: 2, Set: s}, {N: 2}, {N: 1, Set: s[1:]}}
	checkList(t, "Join", Join(l), want)
	checkList(t, "Cut", Cut(l, 0, 8), want)
	checkList(t, "Of", Of([]api.Cell{{Set: s[:1]}, {Set: s[:2]}, {Set: s[:2]}, {Set: s}, {Set: s}, {Set: s[:0]}, {}, {Set: s[1:]}}), want)
}

// wantOf answers the blocks of the cells' inline sets.
func wantOf(d []api.Cell) list {
	var p []set
	for _, c := range d {
		if c.R == 10 {
			p = append(p, nil)
		} else {
			p = append(p, c.Set)
		}
	}
	return blocksOf(p)
}

func checkOf(t *testing.T, d []api.Cell) {
	t.Helper()
	told, want := callOf(t, d), wantOf(d)
	if !sameList(told, want) {
		t.Fatalf("Of of %s: %s; want %s", show(d), show(told), show(want))
	}
	if !callProper(t, told) || Len(told) != len(d) {
		t.Fatalf("Of of %s: %s: not proper, or not as long", show(d), show(told))
	}
}

func TestOfInWords(t *testing.T) {
	x, y := flag(1), flag(2)
	cell := func(r int32, s set) api.Cell { return api.Cell{R: r, Set: slices.Clone(s)} }
	cases := []struct {
		d    []api.Cell
		want list
	}{
		{[]api.Cell{cell(10, nil)}, of(1, 0)},
		{[]api.Cell{cell(10, x)}, of(1, 0)},
		{[]api.Cell{cell(10, x), cell(10, nil), cell(10, y)}, of(3, 0)},
		{[]api.Cell{cell('a', nil)}, of(1, 0)},
		{[]api.Cell{cell('a', x)}, of(1, 1)},
		{[]api.Cell{cell('a', x), cell('b', x)}, of(2, 1)},
		{[]api.Cell{cell('a', x), cell('a', y)}, list{{N: 1, Set: x}, {N: 1, Set: y}}},
		{[]api.Cell{cell('a', x), cell(10, nil), cell('b', x)}, of(1, 1, 1, 0, 1, 1)},
		{[]api.Cell{cell('a', x), cell(10, x), cell('b', x)}, of(1, 1, 1, 0, 1, 1)},
		{[]api.Cell{cell('a', nil), cell(10, nil), cell('b', nil)}, of(3, 0)},
		{[]api.Cell{cell('a', nil), cell(10, x), cell('b', nil)}, of(3, 0)},
		{[]api.Cell{cell('a', x), cell(10, x), cell(10, y), cell('b', nil), cell(10, nil)}, of(1, 1, 4, 0)},
		{[]api.Cell{cell(10, y), cell('a', x), cell('b', x), cell(10, y)}, of(1, 0, 2, 1, 1, 0)},
	}
	for _, c := range cases {
		checkList(t, "Of", callOf(t, c.d), c.want)
		checkOf(t, c.d)
	}
}

// TestOfAllShortRows goes over all rows of up to five cells; a newline's set, whatever it is, is none.
func TestOfAllShortRows(t *testing.T) {
	some := []api.Cell{{R: 'a'}, {R: 'a', Set: flag(1)}, {R: 'b', Set: flag(1)}, {R: 'b', Set: flag(2)}, {R: 10}, {R: 10, Set: flag(1)}, {R: 10, Set: set{}}}
	rows := [][]api.Cell{nil}
	for range 6 {
		var longer [][]api.Cell
		for _, d := range rows {
			checkOf(t, d)
			for _, c := range some {
				longer = append(longer, append(slices.Clone(d), c))
			}
		}
		rows = longer
	}
}

// TestNewlinesOfAnySet: whatever a newline's set is, its inline set is none.
func TestNewlinesOfAnySet(t *testing.T) {
	for _, s := range sets() {
		for _, o := range sets()[:3] {
			checkOf(t, []api.Cell{{R: 10, Set: s}})
			checkOf(t, []api.Cell{{R: 'a', Set: o}, {R: 10, Set: s}, {R: 'b', Set: o}, {R: 10, Set: s}, {R: 10, Set: o}})
			checkOf(t, []api.Cell{{R: 'a', Set: s}, {R: 10, Set: s}, {R: 'b', Set: s}, {R: 'b', Set: o}})
		}
	}
}

// TestWhichRunesAreNewlines: no other rune is one, also none that is no code point.
func TestWhichRunesAreNewlines(t *testing.T) {
	some := []int32{math.MinInt32, math.MinInt32 + 10, -10, -1, 0xd800, 0x2028, 0x2029, 0x85, 0x10ffff, 0x110000, 10 + 1<<8, 10 + 1<<16, 10 + 1<<24, 10 + 1<<30, math.MaxInt32}
	for r := range int32(300) {
		some = append(some, r)
	}
	for _, r := range some {
		want := of(3, 1)
		if r == 10 {
			want = of(1, 1, 1, 0, 1, 1)
		}
		checkList(t, "Of", callOf(t, []api.Cell{{R: 'a', Set: flag(1)}, {R: r, Set: flag(1)}, {R: 'b', Set: flag(1)}}), want)
	}
}

// P12.2

func TestAtInWords(t *testing.T) {
	const none, x, y = 0, 1, 2
	l := of(5, x, 0, y, 2, none, 1, y)
	s := sets()
	for i, want := range []set{s[x], s[x], s[x], s[x], s[x], s[none], s[none], s[y]} {
		checkAt(t, l, i, want, true)
	}
	for _, i := range []int{8, 9, -1, -5, -8, math.MinInt, math.MaxInt} {
		checkAt(t, l, i, nil, false)
	}
	checkAt(t, of(0, x), 0, nil, false)
	checkAt(t, of(0, x, 1, y), 0, s[y], true)
	checkAt(t, of(1, none), 0, nil, true)
	checkAt(t, of(1, none), 1, nil, false)
}

func TestLenInWords(t *testing.T) {
	const none, x, y = 0, 1, 2
	cases := []struct {
		l    list
		want int
	}{
		{of(1, none), 1},
		{of(0, x), 0},
		{of(0, x, 0, y), 0},
		{of(5, x, 2, y), 7},
		{of(5, x, 2, x), 7},
		{of(0, x, 5, y, 0, x, 2, none, 0, y), 7},
		{of(1<<29, x, 1<<29, y), 1 << 30},
		{of(1<<31, x, 1<<31, x), 1 << 32},
		{of(1<<62, x, 1<<61, y), 1<<62 + 1<<61},
		{of(math.MaxInt, x), math.MaxInt},
		{of(math.MaxInt-3, x, 1, y, 2, none), math.MaxInt},
	}
	for _, c := range cases {
		checkLen(t, c.l, c.want)
	}
}

func TestCutInWords(t *testing.T) {
	const none, x, y = 0, 1, 2
	l := of(5, x, 2, y)
	cases := []struct {
		l    list
		i, j int
		want list
	}{
		{l, 0, 7, of(5, x, 2, y)},
		{l, 0, 0, nil},
		{l, 3, 3, nil},
		{l, 7, 7, nil},
		{l, 4, 3, nil},
		{l, 7, 0, nil},
		{l, 1, 4, of(3, x)},
		{l, 0, 5, of(5, x)},
		{l, 0, 4, of(4, x)},
		{l, 5, 7, of(2, y)},
		{l, 6, 7, of(1, y)},
		{l, 5, 6, of(1, y)},
		{l, 4, 7, of(1, x, 2, y)},
		{l, -3, 2, of(2, x)},
		{l, -3, 0, nil},
		{l, -3, -1, nil},
		{l, -1, -3, nil},
		{l, 6, 9, of(1, y)},
		{l, 7, 9, nil},
		{l, 8, 9, nil},
		{l, 9, 8, nil},
		{l, -3, 9, of(5, x, 2, y)},
		{l, math.MinInt, math.MaxInt, of(5, x, 2, y)},
		{l, math.MaxInt, math.MinInt, nil},
		{l, math.MinInt, math.MinInt, nil},
		{l, math.MaxInt, math.MaxInt, nil},
		{l, math.MinInt, 3, of(3, x)},
		{l, 3, math.MaxInt, of(2, x, 2, y)},
		{l, 3, math.MinInt, nil},
		{l, math.MaxInt, 3, nil},
		{of(0, x), 0, 1, nil},
		{of(1, x, 0, y, 2, x), 0, 3, of(3, x)},
		{of(1, x, 0, y, 2, x), 1, 3, of(2, x)},
		{of(2, x, 1, x, 3, none, 0, y, 1, none, 2, y), 1, 8, of(2, x, 4, none, 1, y)},
		{of(0, y, 2, x, 0, y), 0, 2, of(2, x)},
		{of(2, x, 2, x), 1, 3, of(2, x)},
		{of(2, none, 2, none), 1, 3, of(2, none)},
		{of(1, x, 1, y, 1, none, 1, x, 1, y), 1, 4, of(1, y, 1, none, 1, x)},
	}
	for _, c := range cases {
		checkCut(t, c.l, c.i, c.j, c.want)
		checkCut(t, c.l, c.i, c.j, bigCut(c.l, c.i, c.j))
	}
}

// TestOneBlock cuts blocks of one set, of all lengths and in all pieces, at all places.
func TestOneBlock(t *testing.T) {
	for _, s := range sets()[:3] {
		for n := range 20 {
			for _, pieces := range []list{{{N: n, Set: s}}, slices.Repeat(list{{N: 1, Set: s}}, n), {{N: n / 2, Set: s}, {N: n - n/2, Set: s}}} {
				checkJoin(t, pieces, blocksOf(placesOf(pieces)))
				checkPlaces(t, pieces)
				checkCuts(t, pieces)
			}
		}
	}
}

// TestGreatLengths: blocks are not gone through place by place.
func TestGreatLengths(t *testing.T) {
	lengths := []int{0, 1, 1 << 29, 1<<31 - 1, 1 << 32, 1 << 60}
	for n := range 3 {
		for _, l := range lists(pairsOf(lengths, 2), n) {
			checkWide(t, l)
		}
	}
	for _, l := range lists(pairsOf([]int{1, 1 << 60}, 2), 4) {
		checkWide(t, l)
	}
}

// TestMoreThanAnIntHolds: what an int does not hold is never wrapped; there the greatest one is told.
func TestMoreThanAnIntHolds(t *testing.T) {
	lengths := []int{0, 1, 2, 1 << 62, math.MaxInt - 1, math.MaxInt}
	for n := range 4 {
		for _, l := range lists(pairsOf(lengths, 2), n) {
			checkWide(t, l)
		}
	}
	for n := range 6 {
		for _, l := range lists(list{{N: 1}, {N: math.MaxInt}, {N: math.MaxInt, Set: flag(1)}}, n) {
			checkWide(t, l)
		}
	}
	const none, x, y = 0, 1, 2
	checkLen(t, of(math.MaxInt, x, 1, y), math.MaxInt)
	checkLen(t, of(1<<62, x, 1<<62, y, 1<<62, none, 1<<62, x), math.MaxInt)
	checkLen(t, slices.Repeat(of(math.MaxInt, x), 5), math.MaxInt)
	checkJoin(t, of(math.MaxInt, x, 1, x), of(math.MaxInt, x))
	checkJoin(t, of(math.MaxInt, x, 7, x, 2, y), of(math.MaxInt, x, 2, y))
	checkJoin(t, of(1, y, 1<<62, x, 1<<62, x, 2, y), of(1, y, math.MaxInt, x, 2, y))
	checkCut(t, of(math.MaxInt, x, 1, y), 1, math.MaxInt, of(math.MaxInt-1, x))
	checkCut(t, of(math.MaxInt-1, x, math.MaxInt, y), 0, math.MaxInt, of(math.MaxInt-1, x, 1, y))
	checkAt(t, of(math.MaxInt-1, x, 1, y, 5, none), math.MaxInt-1, sets()[y], true)
	checkAt(t, of(math.MaxInt, x, 1, y, 5, none), math.MaxInt-1, sets()[x], true)
	checkAt(t, of(math.MaxInt, x, 0, none, 1, y), math.MaxInt, sets()[y], true)
}

// What follows.

// TestTheSameAtEachPlace: proper blocks that tell the same at each place are the same.
func TestTheSameAtEachPlace(t *testing.T) {
	known := map[string]list{}
	for n := range 5 {
		for _, l := range lists(pairsOf([]int{0, 1, 2, 3}, 3), n) {
			if !Proper(l) {
				continue
			}
			word := ""
			for i := range Len(l) {
				s, _ := At(l, i)
				word += string(rune('a' + slices.IndexFunc(sets(), func(o set) bool { return same(s, o) })))
			}
			if o, there := known[word]; there && !sameList(l, o) {
				t.Fatalf("%v and %v tell %s", l, o, word)
			}
			known[word] = l
		}
	}
	if len(known) < 1000 {
		t.Errorf("%d rows alone", len(known))
	}
}

// checkInTwo cuts blocks in two at i, and holds both joined against the whole.
func checkInTwo(t *testing.T, l list, i int) {
	t.Helper()
	a, b := callCut(t, l, 0, i), callCut(t, l, i, Len(l))
	checkLen(t, a, min(max(i, 0), Len(l)))
	checkLen(t, b, Len(l)-Len(a))
	checkList(t, "cut in two and joined", callJoin(t, slices.Concat(a, b)), callJoin(t, l))
}

func TestCutInTwoAndJoined(t *testing.T) {
	for n := range 4 {
		for _, l := range lists(pairsOf([]int{0, 1, 2}, 3), n) {
			for i := -1; i <= Len(l)+1; i++ {
				checkInTwo(t, l, i)
			}
		}
	}
	for _, l := range lists(pairsOf([]int{1, 1 << 40, 1 << 60}, 2), 3) {
		for _, i := range []int{math.MinInt, 0, 1, 2, 1 << 40, 1<<40 + 1, 1 << 60, 1<<60 + 1, 1<<61 - 1, 1 << 61, math.MaxInt} {
			checkInTwo(t, l, i)
		}
	}
}

// TestLongRows holds all answers against a plain list of sets, place by place.
func TestLongRows(t *testing.T) {
	for n := range 60 {
		by := rule(n)
		l := by.list(n*3, 1+by.next(5))
		p := placesOf(l)
		checkProper(t, l)
		checkJoin(t, l, blocksOf(p))
		checkPlaces(t, l)
		for range 200 {
			i, j := by.next(len(p)+5)-2, by.next(len(p)+5)-2
			checkCut(t, l, i, j, wantCut(p, i, j))
		}
		var d []api.Cell
		for i, s := range p {
			d = append(d, api.Cell{R: int32(5 + i*7%13), Set: s})
		}
		checkOf(t, d)
	}
	by := rule(5)
	l := by.list(700, 4)
	for i := range Len(l) + 1 {
		checkInTwo(t, l, i)
	}
}

// TestVeryLongRows: what is asked once of all blocks or cells takes as many steps as there are, and not their square.
func TestVeryLongRows(t *testing.T) {
	const n = 1 << 20
	l := make(list, n)
	d := make([]api.Cell, n)
	s := sets()
	for i := range n {
		l[i] = api.Block{N: 2, Set: s[i%2]}
		d[i] = api.Cell{R: 'a', Set: s[i%2]}
	}
	if !Proper(l) || Len(l) != 2*n || !sameList(Join(l), l) || !sameList(Cut(l, 0, 2*n), l) {
		t.Error("of many blocks")
	}
	if told := Of(d); len(told) != n || !Proper(told) {
		t.Error("of many cells")
	}
	for i := range n {
		l[i].Set, d[i].Set = s[1], s[1]
	}
	want := of(2*n, 1)
	checkList(t, "Join", Join(l), want)
	checkList(t, "Cut", Cut(l, 0, math.MaxInt), want)
	checkList(t, "Of", Of(d), of(n, 1))
	if Proper(l) || Len(l) != 2*n {
		t.Error("of many blocks alike")
	}
}

// Memory of their own.

// told are all answers that are lists of blocks, of one list of blocks and one of cells.
func told(l list, d []api.Cell) map[string]list {
	n := Len(l)
	return map[string]list{"Join": Join(l), "Of": Of(d), "Cut of all": Cut(l, 0, n), "Cut of some": Cut(l, 1, n-1)}
}

func cellsOf(l list) []api.Cell {
	var d []api.Cell
	for _, s := range placesOf(l) {
		d = append(d, api.Cell{R: 'a', Set: s})
	}
	return d
}

func deep(l list) list {
	var c list
	for _, x := range l {
		c = append(c, api.Block{N: x.N, Set: slices.Clone(x.Set)})
	}
	return c
}

// TestAnswersMayBeWrittenOver writes over each set of an answer, with the room behind it: no other set of it, no other answer and nothing that was handed in is touched.
func TestAnswersMayBeWrittenOver(t *testing.T) {
	s := many(3)
	for _, l := range []list{
		of(2, 1, 3, 2, 1, 1, 4, 30),
		of(1, 1, 1, 1, 0, 2, 2, 1, 3, 0, 1, 2),
		{{N: 2, Set: s}, {N: 1, Set: s[:1]}, {N: 3, Set: s}, {N: 1, Set: s[1:]}, {N: 2, Set: s[:2]}},
		of(3, 30),
	} {
		d := cellsOf(l)
		before, wants := deep(l), told(l, d)
		for what, want := range wants {
			want = deep(want)
			for k := range want {
				one, other := told(l, d)[what], told(l, d)[what]
				overwriteSet(one[k].Set)
				one[k].Set = slices.Clone(want[k].Set)
				checkList(t, what+", one set written over", one, want)
				overwrite(one)
				checkList(t, what+", another answer", other, want)
				checkList(t, what+", what was told before", wants[what], want)
				checkList(t, what+", handed in", l, before)
				checkList(t, what+", cells handed in", wantOf(d), wantOf(cellsOf(before)))
			}
		}
	}
}

func TestSetsToldByAtMayBeWrittenOver(t *testing.T) {
	for _, l := range []list{of(2, 1, 3, 2), of(1, 30, 0, 1, 2, 30), of(3, 25, 1, 0)} {
		before := deep(l)
		for i, want := range placesOf(before) {
			one, _ := At(l, i)
			other, _ := At(l, i)
			overwriteSet(one)
			if !same(other, want) || !sameList(l, before) {
				t.Fatalf("At of %v, %d: the set was not in memory of its own", l, i)
			}
			_ = append(other, mark())
			if again, ok := At(l, i); !ok || !same(again, want) || !sameList(l, before) {
				t.Fatalf("At of %v, %d: %v, %v; want %v", l, i, again, ok, want)
			}
		}
	}
}

// TestAnswersMayBePutBehind: what is put behind an answer, or a set of it, touches nothing else.
func TestAnswersMayBePutBehind(t *testing.T) {
	l := lend(of(2, 1, 3, 2, 0, 1, 1, 2, 4, 30))
	d := lendCells(cellsOf(l))
	for what, want := range told(l, d) {
		want = deep(want)
		one := told(l, d)[what]
		for k := range one {
			_ = append(one[k].Set, mark(), mark())
		}
		_ = append(one, api.Block{N: 5, Set: set{mark()}})
		checkList(t, what, one, want)
		checkList(t, what+" once more", told(l, d)[what], want)
	}
	if !isLentSet(l[0].Set, flag(1)) || !isLentSet(d[0].Set, flag(1)) {
		t.Error("what was handed in was written to")
	}
}

// TestNothingIsKept: an answer hangs on nothing that was asked before.
func TestNothingIsKept(t *testing.T) {
	l, o := of(2, 1, 3, 2, 1, 2), of(7, 0)
	d := cellsOf(l)
	first := told(l, d)
	told(o, cellsOf(o))
	told(of(-1, 3), nil)
	for what, again := range told(l, d) {
		checkList(t, what, again, first[what])
	}
}
