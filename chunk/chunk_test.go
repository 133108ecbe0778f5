package chunk

import (
	"fmt"
	"math"
	"slices"
	"testing"

	"rubric/api"
)

// The signatures are the chapter's.
var (
	_ func([]int32) (Chunk, api.Errno)           = Of
	_ func(Chunk) int                            = Chunk.Len
	_ func(Chunk) int                            = Chunk.Newlines
	_ func(Chunk, int) (int32, api.Errno)        = Chunk.At
	_ func(Chunk, int) int                       = Chunk.Ahead
	_ func(Chunk, int) (int, bool)               = Chunk.NewlineAt
	_ func(Chunk, int) (a, b Chunk, _ api.Errno) = Chunk.Split
	_ func(Chunk, Chunk) (Chunk, api.Errno)      = Chunk.Join
	_ func(Chunk) []int32                        = Chunk.Runes
)

// The model: the chapter's words, said of a plain list of runes.

const most = 32

func isRune(r int32) bool {
	switch {
	case r < 0:
		return false
	case r < 0xd800:
		return true
	case r <= 0xdfff:
		return false
	case r <= 0x10ffff:
		return true
	}
	return false
}

// wantOf answers what Of answers beside a chunk.
func wantOf(l []int32) api.Errno {
	for _, r := range l {
		if !isRune(r) {
			return 3
		}
	}
	if len(l) > most {
		return 8
	}
	return 0
}

// newlines answers where the newlines are, rising.
func newlines(l []int32) []int {
	var at []int
	for i, r := range l {
		if r == 10 {
			at = append(at, i)
		}
	}
	return at
}

// ahead answers how many newlines have a place below i.
func ahead(l []int32, i int) int {
	n := 0
	for _, at := range newlines(l) {
		if at < i {
			n++
		}
	}
	return n
}

// Numbers and lists that the tests go over.

// ends are numbers of no place, and some about those that are.
func ends() []int {
	return []int{math.MinInt, math.MinInt + 1, math.MinInt32 - 1, math.MinInt32, -1 << 16, -257, -256, -255, -33, -32, -31, -2, -1,
		0, 1, 31, 32, 33, 34, 63, 64, 65, 127, 128, 129, 255, 256, 257, 1 << 16, math.MaxInt32, math.MaxInt32 + 1, 1 << 32, 1<<32 + 1, 1 << 62, math.MaxInt - 1, math.MaxInt}
}

// places are those numbers, and all about a list of n.
func places(n int) []int {
	at := ends()
	for i := -3; i <= n+3; i++ {
		at = append(at, i)
	}
	return at
}

// edges are the runes at which something changes, and such as are a newline but for one bit.
func edges() []int32 {
	return []int32{0, 1, 9, 10, 11, 8, 14, 2, 26, 42, 74, 138, 13, 127, 128, 255, 256, 266, 0x7ff, 0x800, 0x100a, 0x2028, 0x2029, 0x85,
		0xd7fe, 0xd7ff, 0xe000, 0xe001, 0xfeff, 0xfffd, 0xfffe, 0xffff, 0x10000, 0x1000a, 0x10fffe, 0x10ffff}
}

// wrongs are numbers that are no runes.
func wrongs() []int32 {
	return []int32{math.MinInt32, math.MinInt32 + 1, math.MinInt32 + 10, -0x110000, -0x10ffff, -65536, -256, -11, -10, -2, -1,
		0xd800, 0xd801, 0xd80a, 0xdbff, 0xdc00, 0xdffe, 0xdfff, 0x110000, 0x110001, 0x11000a, 0x1fffff, 0x200000, math.MaxInt32 - 1, math.MaxInt32}
}

// letters are n runes, no two alike and none a newline.
func letters(first int32, n int) []int32 {
	l := make([]int32, n)
	for i := range l {
		l[i] = first + int32(i)
	}
	return l
}

// alike are n times r.
func alike(r int32, n int) []int32 {
	return slices.Repeat([]int32{r}, n)
}

// all calls f with each list of so many runes of those.
func all(runes []int32, n int, f func(l []int32)) {
	l := make([]int32, n)
	var fill func(i int)
	fill = func(i int) {
		if i == n {
			f(slices.Clone(l))
			return
		}
		for _, r := range runes {
			l[i] = r
			fill(i + 1)
		}
	}
	fill(0)
}

// rule is a row of numbers that looks like chance and is the same at each run.
type rule uint64

func (r *rule) next(n int) int {
	*r = *r*6364136223846793005 + 1442695040888963407
	return int(uint64(*r) >> 33 % uint64(n))
}

func (r *rule) list(n int) []int32 {
	l := make([]int32, n)
	for i := range l {
		if l[i] = edges()[r.next(len(edges()))]; r.next(3) == 0 {
			l[i] = 10
		}
	}
	return l
}

// listBy is the list of n runes by the rule that begins with that number.
func listBy(first uint64, n int) []int32 {
	r := rule(first)
	return r.list(n)
}

// rows are lists of all lengths: of newlines alone, without any, with one at each place, without one at each place, and by a rule.
func rows() [][]int32 {
	row := [][]int32{nil, {}}
	by := rule(9)
	for n := 1; n <= most; n++ {
		row = append(row, alike(10, n), alike(0, n), alike(0x10ffff, n), letters(97, n), letters(0, n), by.list(n), by.list(n), by.list(n))
		for i := range n {
			one, other := letters(97, n), alike(10, n)
			one[i], other[i] = 10, 97
			row = append(row, one, other)
		}
	}
	return row
}

// Checks.

func made(t *testing.T, l []int32) Chunk {
	t.Helper()
	c, e := Of(l)
	if e != api.OK {
		t.Fatalf("Of(%x): error %d", l, e)
	}
	return c
}

func checkSame(t *testing.T, what string, c, want Chunk) {
	t.Helper()
	if c != want {
		t.Fatalf("%s: %x, want %x", what, c.Runes(), want.Runes())
	}
}

// check asks a chunk all that can be read of it.
func check(t *testing.T, what string, c Chunk, l []int32) {
	t.Helper()
	if n := c.Len(); n != len(l) {
		t.Fatalf("%s, of %x: Len %d, want %d", what, l, n, len(l))
	}
	if n, want := c.Newlines(), len(newlines(l)); n != want {
		t.Fatalf("%s, of %x: Newlines %d, want %d", what, l, n, want)
	}
	if r := c.Runes(); !slices.Equal(r, l) {
		t.Fatalf("%s, of %x: Runes %x", what, l, r)
	}
	for _, i := range places(len(l)) {
		checkAt(t, what, c, l, i)
		if n, want := c.Ahead(i), ahead(l, i); n != want {
			t.Fatalf("%s, of %x: Ahead(%d) %d, want %d", what, l, i, n, want)
		}
		checkNewlineAt(t, what, c, l, i)
	}
}

func checkAt(t *testing.T, what string, c Chunk, l []int32, i int) {
	t.Helper()
	want, wantE := int32(0), api.Errno(5)
	if 0 <= i && i < len(l) {
		want, wantE = l[i], 0
	}
	if r, e := c.At(i); r != want || e != wantE {
		t.Fatalf("%s, of %x: At(%d) %x, %d, want %x, %d", what, l, i, r, e, want, wantE)
	}
}

func checkNewlineAt(t *testing.T, what string, c Chunk, l []int32, k int) {
	t.Helper()
	want, wantOK := 0, false
	if at := newlines(l); 0 <= k && k < len(at) {
		want, wantOK = at[k], true
	}
	if i, ok := c.NewlineAt(k); i != want || ok != wantOK {
		t.Fatalf("%s, of %x: NewlineAt(%d) %d, %t, want %d, %t", what, l, k, i, ok, want, wantOK)
	}
}

// checkSplit splits a chunk, holds both pieces against those of the list, and joins them.
func checkSplit(t *testing.T, c Chunk, l []int32, i int) {
	t.Helper()
	a, b, e := c.Split(i)
	if i < 0 || i > len(l) {
		if e != 5 || a != (Chunk{}) || b != (Chunk{}) {
			t.Fatalf("%x: Split(%d) %x, %x, %d, want nothing, nothing, 5", l, i, a.Runes(), b.Runes(), e)
		}
		return
	}
	if e != api.OK || a != made(t, l[:i]) || b != made(t, l[i:]) {
		t.Fatalf("%x: Split(%d) %x, %x, %d, want %x, %x, 0", l, i, a.Runes(), b.Runes(), e, l[:i], l[i:])
	}
	if n, m := a.Len()+b.Len(), a.Newlines()+b.Newlines(); n != c.Len() || m != c.Newlines() {
		t.Fatalf("%x: Split(%d): %d runes and %d newlines in all", l, i, n, m)
	}
	if c.Ahead(i) != a.Newlines() {
		t.Fatalf("%x: Ahead(%d) %d, but the first have %d newlines", l, i, c.Ahead(i), a.Newlines())
	}
	if both, e := a.Join(b); both != c || e != api.OK {
		t.Fatalf("%x: split at %d and joined: %x, %d", l, i, both.Runes(), e)
	}
}

// checkJoin joins the chunks of both lists, and holds what comes of it against the list of both.
func checkJoin(t *testing.T, l, m []int32) {
	t.Helper()
	c, o := made(t, l), made(t, m)
	both, e := c.Join(o)
	want, wantE := Chunk{}, api.Errno(8)
	if len(l)+len(m) <= most {
		want, wantE = made(t, slices.Concat(l, m)), 0
	}
	if both != want || e != wantE {
		t.Fatalf("%x: Join(%x) %x, %d, want %x, %d", l, m, both.Runes(), e, want.Runes(), wantE)
	}
	if c != made(t, l) || o != made(t, m) {
		t.Fatalf("%x: Join(%x) changed them to %x, %x", l, m, c.Runes(), o.Runes())
	}
}

func checkOf(t *testing.T, l []int32) {
	t.Helper()
	c, e := Of(l)
	if want := wantOf(l); e != want {
		t.Fatalf("Of(%x) %d, want %d", l, e, want)
	}
	if e != api.OK && c != (Chunk{}) {
		t.Fatalf("Of(%x) %d, and %x beside it", l, e, c.Runes())
	}
	if e == api.OK && !slices.Equal(c.Runes(), l) {
		t.Fatalf("Of(%x) %x", l, c.Runes())
	}
}

// The chapter's examples.

func TestExamples(t *testing.T) {
	c := made(t, []int32{'a', 10, 'b'})
	if n := c.Newlines(); n != 1 {
		t.Errorf("Newlines %d", n)
	}
	if one, two := c.Ahead(1), c.Ahead(2); one != 0 || two != 1 {
		t.Errorf("Ahead %d, %d", one, two)
	}
	if i, ok := c.NewlineAt(0); i != 1 || !ok {
		t.Errorf("NewlineAt(0) %d, %t", i, ok)
	}
	if i, ok := c.NewlineAt(1); i != 0 || ok {
		t.Errorf("NewlineAt(1) %d, %t", i, ok)
	}
	a, b, e := c.Split(1)
	if !slices.Equal(a.Runes(), []int32{'a'}) || !slices.Equal(b.Runes(), []int32{10, 'b'}) || e != api.OK {
		t.Errorf("Split(1) %x, %x, %d", a.Runes(), b.Runes(), e)
	}
}

func TestLimitAndNewlineAreThoseOfTheDocument(t *testing.T) {
	if api.MaxChunk != most || api.Newline != 10 {
		t.Fatalf("MaxChunk %d, Newline %d", api.MaxChunk, api.Newline)
	}
	if api.ErrMalformed != 3 || api.ErrRange != 5 || api.ErrTooLong != 8 {
		t.Fatalf("ErrMalformed %d, ErrRange %d, ErrTooLong %d", api.ErrMalformed, api.ErrRange, api.ErrTooLong)
	}
}

// P9.1

func TestOfEachNumberAlone(t *testing.T) {
	l := make([]int32, 1)
	ask := func(r int32) {
		l[0] = r
		c, e := Of(l)
		if !isRune(r) {
			if e != api.ErrMalformed || c != (Chunk{}) {
				t.Fatalf("Of(%x) %x, %d", r, c.Runes(), e)
			}
			return
		}
		at, atE := c.At(0)
		if e != api.OK || at != r || atE != api.OK || c.Len() != 1 || (c.Newlines() == 1) != (r == 10) {
			t.Fatalf("Of(%x) %x, %d: At(0) %x, %d, Newlines %d", r, c.Runes(), e, at, atE, c.Newlines())
		}
	}
	for r := int32(-0x11ffff); r <= 0x21ffff; r++ {
		ask(r)
	}
	for bit := range 32 {
		for _, r := range edges() {
			ask(r ^ int32(uint32(1)<<bit))
		}
	}
	for _, r := range wrongs() {
		ask(r)
	}
}

func TestOfRunesAtTheEdges(t *testing.T) {
	check(t, "edges", made(t, []int32{0, 10, 0xd7ff, 0xe000, 0x10ffff}), []int32{0, 10, 0xd7ff, 0xe000, 0x10ffff})
	for _, r := range edges() {
		for n := range most + 3 {
			checkOf(t, alike(r, n))
		}
	}
}

func TestOfNoRunes(t *testing.T) {
	for _, l := range [][]int32{nil, {}, make([]int32, 0, 9), letters(97, 9)[4:4]} {
		c, e := Of(l)
		if e != api.OK || c != (Chunk{}) {
			t.Fatalf("Of(%x) %x, %d", l, c.Runes(), e)
		}
	}
}

func TestOfTooMany(t *testing.T) {
	for _, n := range []int{30, 31, 32, 33, 34, 63, 64, 65, 127, 128, 255, 256, 257, 287, 288, 289, 1 << 16, 1<<16 + 1, 1<<16 + 32, 1 << 18} {
		for _, r := range []int32{0, 10, 97, 0x10ffff} {
			checkOf(t, alike(r, n))
		}
	}
	checkOf(t, letters(97, most))
	checkOf(t, letters(97, most+1))
}

func TestOfOneThatIsNoRune(t *testing.T) {
	for _, n := range []int{1, 2, 3, 31, 32, 33, 34, 64, 65, 100} {
		for i := range n {
			for _, r := range wrongs() {
				l := letters(97, n)
				l[i] = r
				checkOf(t, l)
			}
		}
	}
}

func TestOfOneThatIsNoRuneFarBehind(t *testing.T) {
	for _, n := range []int{257, 1 << 12, 1<<16 + 1} {
		for _, i := range []int{0, 31, 32, 33, n / 2, n - 2, n - 1} {
			for _, r := range []int32{-1, 0xd800, 0xdfff, 0x110000} {
				l := alike(10, n)
				l[i] = r
				checkOf(t, l)
			}
		}
	}
}

func TestOfTwoThatAreNoRunes(t *testing.T) {
	for _, n := range []int{2, 3, 32, 33, 40} {
		for i := range n {
			for j := range i {
				l := letters(97, n)
				l[i], l[j] = wrongs()[i%len(wrongs())], wrongs()[j*7%len(wrongs())]
				checkOf(t, l)
			}
		}
	}
	for _, r := range wrongs() {
		for n := 1; n < most+3; n++ {
			checkOf(t, alike(r, n))
		}
	}
}

func TestOfAllShortListsRightOrWrong(t *testing.T) {
	some := []int32{0, 10, 0xd7ff, 0xe000, 0x10ffff, -1, 0xd800, 0xdfff, 0x110000}
	for n := range 5 {
		all(some, n, func(l []int32) { checkOf(t, l) })
	}
}

// P9.2

func TestReadingAllShortLists(t *testing.T) {
	for n := range 9 {
		all([]int32{10, 97}, n, func(l []int32) { check(t, "short", made(t, l), l) })
	}
	for n := range 4 {
		all([]int32{0, 9, 10, 11, 0xd7ff, 0xe000, 0x10ffff}, n, func(l []int32) { check(t, "short", made(t, l), l) })
	}
}

func TestReadingRows(t *testing.T) {
	for _, l := range rows() {
		check(t, "row", made(t, l), l)
	}
}

func TestReadingEachRuneAtEachPlace(t *testing.T) {
	for i := range most {
		for _, r := range edges() {
			l := alike(98, most)
			l[i] = r
			check(t, "one other", made(t, l), l)
		}
	}
}

func TestAtOfNoSuchRune(t *testing.T) {
	for _, n := range []int{0, 1, 2, 31, 32} {
		c := made(t, letters(97, n))
		for _, i := range []int{math.MinInt, math.MinInt + 1, -33, -32, -1, n, n + 1, 32, 33, 64, 1 << 32, math.MaxInt - 1, math.MaxInt} {
			if r, e := c.At(i); r != 0 || e != api.ErrRange {
				t.Errorf("%d runes: At(%d) %x, %d", n, i, r, e)
			}
		}
	}
}

func TestAheadOfPlacesThatAreNone(t *testing.T) {
	for _, l := range [][]int32{nil, {10}, {10, 10}, {97, 10}, {10, 97}, alike(10, 31), alike(10, 32), alike(97, 32)} {
		c := made(t, l)
		for _, i := range []int{math.MinInt, math.MinInt + 1, -1 << 32, -33, -32, -1, 0} {
			if n := c.Ahead(i); n != 0 {
				t.Errorf("%x: Ahead(%d) %d", l, i, n)
			}
		}
		for _, i := range []int{len(l), len(l) + 1, 32, 33, 256, 1 << 32, math.MaxInt - 1, math.MaxInt} {
			if n := c.Ahead(i); n != len(newlines(l)) {
				t.Errorf("%x: Ahead(%d) %d", l, i, n)
			}
		}
	}
}

func TestNewlineAtAndAheadGoTogether(t *testing.T) {
	for _, l := range rows() {
		c := made(t, l)
		for k := range c.Newlines() {
			i, ok := c.NewlineAt(k)
			r, e := c.At(i)
			if !ok || e != api.OK || r != 10 || c.Ahead(i) != k || c.Ahead(i+1) != k+1 {
				t.Fatalf("%x: NewlineAt(%d) %d, %t: At %x, Ahead %d, then %d", l, k, i, ok, r, c.Ahead(i), c.Ahead(i+1))
			}
		}
	}
}

// P9.3

func TestSplitRows(t *testing.T) {
	for _, l := range rows() {
		c := made(t, l)
		for _, i := range places(len(l)) {
			checkSplit(t, c, l, i)
		}
	}
}

func TestSplitAllShortLists(t *testing.T) {
	for n := range 6 {
		all([]int32{0, 10, 97, 0x10ffff}, n, func(l []int32) {
			for i := -1; i <= n+1; i++ {
				checkSplit(t, made(t, l), l, i)
			}
		})
	}
}

func TestSplitAtTheEnds(t *testing.T) {
	for _, l := range rows() {
		c := made(t, l)
		if a, b, e := c.Split(0); a != (Chunk{}) || b != c || e != api.OK {
			t.Fatalf("%x: Split(0) %x, %x, %d", l, a.Runes(), b.Runes(), e)
		}
		if a, b, e := c.Split(c.Len()); a != c || b != (Chunk{}) || e != api.OK {
			t.Fatalf("%x: Split(Len) %x, %x, %d", l, a.Runes(), b.Runes(), e)
		}
	}
}

func TestPiecesAreChunksLikeOthers(t *testing.T) {
	for n := range most + 1 {
		l := listBy(uint64(n), n)
		c := made(t, l)
		for i := range n + 1 {
			a, b, _ := c.Split(i)
			check(t, "the first", a, l[:i])
			check(t, "the others", b, l[i:])
			turned, _ := b.Join(a)
			check(t, "joined the other way round", turned, slices.Concat(l[i:], l[:i]))
		}
	}
}

func TestPiecesOfPieces(t *testing.T) {
	l := listBy(4, most)
	c := made(t, l)
	for i := range most + 1 {
		a, b, _ := c.Split(i)
		for j := range most + 2 {
			checkSplit(t, a, l[:i], j)
			checkSplit(t, b, l[i:], j)
		}
	}
}

func TestJoinAllLengths(t *testing.T) {
	sorts := []func(n int) []int32{
		func(n int) []int32 { return letters(97, n) },
		func(n int) []int32 { return letters(0x1000, n) },
		func(n int) []int32 { return alike(0, n) },
		func(n int) []int32 { return alike(10, n) },
		func(n int) []int32 { return alike(0x10ffff, n) },
	}
	for n := range most + 1 {
		for m := range most + 1 {
			for _, first := range sorts {
				for _, second := range sorts {
					checkJoin(t, first(n), second(m))
				}
			}
		}
	}
}

func TestJoinAllShortLists(t *testing.T) {
	some := []int32{0, 10, 97}
	for n := range 4 {
		for m := range 4 {
			all(some, n, func(l []int32) { all(some, m, func(o []int32) { checkJoin(t, l, o) }) })
		}
	}
}

func TestJoinJustSoManyAndOneMore(t *testing.T) {
	for n := range most + 1 {
		l, o := letters(97, n), letters(0x4e00, most-n)
		both, e := made(t, l).Join(made(t, o))
		if e != api.OK {
			t.Fatalf("%d and %d: %d", n, most-n, e)
		}
		check(t, "full", both, slices.Concat(l, o))
		for _, r := range []int32{0, 10, 0x10ffff} {
			if more, e := both.Join(made(t, []int32{r})); more != (Chunk{}) || e != api.ErrTooLong {
				t.Fatalf("full, and %x: %x, %d", r, more.Runes(), e)
			}
			if more, e := made(t, []int32{r}).Join(both); more != (Chunk{}) || e != api.ErrTooLong {
				t.Fatalf("%x, and full: %x, %d", r, more.Runes(), e)
			}
		}
	}
}

func TestJoinWithNothing(t *testing.T) {
	for _, l := range rows() {
		c := made(t, l)
		if both, e := c.Join(Chunk{}); both != c || e != api.OK {
			t.Fatalf("%x, and nothing: %x, %d", l, both.Runes(), e)
		}
		if both, e := (Chunk{}).Join(c); both != c || e != api.OK {
			t.Fatalf("nothing, and %x: %x, %d", l, both.Runes(), e)
		}
	}
}

func TestJoinToItself(t *testing.T) {
	for n := range most + 1 {
		checkJoin(t, letters(97, n), letters(97, n))
	}
	l := []int32{97, 10}
	c := made(t, l)
	for len(l) < most {
		c, _ = c.Join(c)
		l = slices.Concat(l, l)
		check(t, "doubled", c, l)
	}
	if more, e := c.Join(c); more != (Chunk{}) || e != api.ErrTooLong {
		t.Fatalf("doubled once more: %x, %d", more.Runes(), e)
	}
}

func TestJoinThreeEitherWay(t *testing.T) {
	for _, l := range [][]int32{letters(97, most), alike(10, most), letters(0, 17), {97, 10, 98}, {}} {
		for i := range len(l) + 1 {
			for j := range i + 1 {
				a, b, c := made(t, l[:j]), made(t, l[j:i]), made(t, l[i:])
				ab, _ := a.Join(b)
				bc, _ := b.Join(c)
				one, e := ab.Join(c)
				other, f := a.Join(bc)
				if want := made(t, l); one != want || other != want || e != api.OK || f != api.OK {
					t.Fatalf("%x, cut at %d and %d: %x, %d, and %x, %d", l, j, i, one.Runes(), e, other.Runes(), f)
				}
			}
		}
	}
}

func TestRunesAreInMemoryOfTheirOwn(t *testing.T) {
	for _, l := range rows() {
		c := made(t, l)
		first, second := c.Runes(), c.Runes()
		for i := range first {
			first[i] = 0xdead
		}
		_ = append(first[:0:cap(first)], alike(98, cap(first))...)
		if !slices.Equal(second, l) {
			t.Fatalf("%x: told twice, the second is %x", l, second)
		}
		check(t, "written over", c, l)
	}
}

// A zero chunk.

func TestZeroChunk(t *testing.T) {
	var c Chunk
	check(t, "zero", c, nil)
	for _, i := range places(0) {
		checkSplit(t, c, nil, i)
	}
	if c.Len() != 0 || c.Newlines() != 0 || len(c.Runes()) != 0 || c.Ahead(math.MaxInt) != 0 {
		t.Fatalf("Len %d, Newlines %d, Runes %x", c.Len(), c.Newlines(), c.Runes())
	}
	if r, e := c.At(0); r != 0 || e != api.ErrRange {
		t.Fatalf("At(0) %x, %d", r, e)
	}
	if i, ok := c.NewlineAt(0); i != 0 || ok {
		t.Fatalf("NewlineAt(0) %d, %t", i, ok)
	}
	if a, b, e := c.Split(0); a != c || b != c || e != api.OK {
		t.Fatalf("Split(0) %x, %x, %d", a.Runes(), b.Runes(), e)
	}
	if both, e := c.Join(c); both != c || e != api.OK {
		t.Fatalf("Join %x, %d", both.Runes(), e)
	}
	checkSame(t, "of none", made(t, nil), c)
	checkSame(t, "new", *new(Chunk), c)
}

// What was handed in and told: R2, and 'What follows'.

func TestListThatWasHandedInIsNotKept(t *testing.T) {
	for _, l := range rows() {
		mine := slices.Clone(l)
		c := made(t, mine)
		for i := range mine {
			mine[i] = -7
		}
		check(t, "written over", c, l)
		for i := range mine {
			mine[i] = 10
		}
		check(t, "written over", c, l)
	}
}

func TestListThatWasHandedInIsNotWrittenTo(t *testing.T) {
	for _, l := range append(rows(), letters(97, most+1), []int32{97, -1, 10}, alike(0x110000, 40)) {
		mine := slices.Concat([]int32{-3}, l, alike(-4, 40))
		want := slices.Clone(mine)
		c, e := Of(mine[1 : 1+len(l)])
		if e == api.OK {
			a, _, _ := c.Split(len(l) / 2)
			_, _ = a.Join(c)
			_ = append(c.Runes(), 5, 6)
		}
		if !slices.Equal(mine, want) {
			t.Fatalf("Of(%x) wrote to it: %x", l, mine)
		}
	}
}

func TestWhatIsDoneWithOneDoesNothingToOthers(t *testing.T) {
	for _, l := range rows() {
		c := made(t, l)
		copied := c
		asArgument := func(c Chunk) Chunk {
			a, b, _ := c.Split(c.Len() / 3)
			c, _ = b.Join(a)
			return c
		}
		turned := asArgument(c)
		checkSame(t, "handed over", c, copied)
		i := len(l) / 3
		check(t, "turned", turned, slices.Concat(l[i:], l[:i]))
		a, b, _ := c.Split(i)
		wantA, wantB := a, b
		_, _ = a.Join(b)
		_, _ = b.Join(a)
		_, _, _ = a.Split(0)
		_, _, _ = b.Split(b.Len())
		clear(a.Runes())
		clear(b.Runes())
		clear(c.Runes())
		checkSame(t, "the first", a, wantA)
		checkSame(t, "the others", b, wantB)
		checkSame(t, "what was split", c, copied)
		check(t, "what was split", c, l)
		c = made(t, []int32{1, 2, 3})
		check(t, "the copy of one that was given another value", copied, l)
	}
}

func TestChunksAreReadByManyAtOnce(t *testing.T) {
	l := listBy(8, most)
	c := made(t, l)
	done := make(chan error)
	for i := range most + 1 {
		go func() {
			a, b, _ := c.Split(i)
			both, e := a.Join(b)
			if both != c || e != api.OK || !slices.Equal(c.Runes(), l) {
				done <- fmt.Errorf("split at %d and joined: %x, %d", i, both.Runes(), e)
				return
			}
			done <- nil
		}()
	}
	for range most + 1 {
		if e := <-done; e != nil {
			t.Error(e)
		}
	}
}

// Compared as a whole.

func TestChunksAreTheSameJustIfTheirRunesAre(t *testing.T) {
	row := [][]int32{nil}
	for n := 1; n <= most; n++ {
		row = append(row, alike(0, n), alike(10, n), alike(97, n), letters(0, n), letters(1, n), letters(97, n))
	}
	for n := range 4 {
		all([]int32{0, 1, 10, 0x10ffff}, n, func(l []int32) { row = append(row, l) })
	}
	for _, r := range edges() {
		row = append(row, []int32{r}, []int32{97, r}, []int32{r, 97}, []int32{r, 0}, []int32{0, r})
	}
	for _, l := range row {
		c := made(t, l)
		for _, m := range row {
			if same, want := c == made(t, m), slices.Equal(l, m); same != want {
				t.Fatalf("%x and %x: %t, want %t", l, m, same, want)
			}
		}
	}
}

func TestChunksThatDifferInOneRuneAreNotTheSame(t *testing.T) {
	for n := 1; n <= most; n++ {
		for i := range n {
			for _, r := range edges() {
				l, m := alike(98, n), alike(98, n)
				m[i] = r
				if made(t, l) == made(t, m) {
					t.Fatalf("%x and %x are the same", l, m)
				}
			}
		}
	}
}

// ways are the ways to come by a chunk of those runes.
func ways(t *testing.T, l []int32) map[string]Chunk {
	t.Helper()
	row := map[string]Chunk{"Of": made(t, l)}
	c := Chunk{}
	for _, r := range l {
		c, _ = c.Join(made(t, []int32{r}))
	}
	row["one behind the other"] = c
	c = Chunk{}
	for i := range l {
		c, _ = made(t, l[len(l)-1-i:len(l)-i]).Join(c)
	}
	row["one ahead of the other"] = c
	room := most - len(l)
	for _, n := range []int{0, room / 2, room} {
		before, behind := alike(0x10ffff, n), alike(10, room-n)
		full := made(t, slices.Concat(before, l, behind))
		_, c, _ = full.Split(n)
		c, _, _ = c.Split(len(l))
		row[fmt.Sprint("cut out, first ahead of it, behind ", n)] = c
		c, _, _ = full.Split(n + len(l))
		_, c, _ = c.Split(n)
		row[fmt.Sprint("cut out, first behind it, behind ", n)] = c
	}
	for i := range len(l) + 1 {
		a, b, _ := made(t, l).Split(i)
		c, _ = a.Join(b)
		row[fmt.Sprint("split and joined at ", i)] = c
	}
	return row
}

func TestChunksAreTheSameHoweverTheyWereMade(t *testing.T) {
	for _, l := range rows() {
		want := made(t, l)
		for what, c := range ways(t, l) {
			checkSame(t, what, c, want)
			if map[Chunk]int{c: 1}[want] != 1 || any(c) != any(want) || [1]Chunk{c} != [1]Chunk{want} {
				t.Fatalf("%s: %x is not found", what, l)
			}
		}
	}
}

func TestChunksReadTheSameHoweverTheyWereMade(t *testing.T) {
	for n := range most + 1 {
		l := listBy(uint64(n), n)
		for what, c := range ways(t, l) {
			check(t, what, c, l)
		}
	}
}

// Long rows of steps: chunks and lists side by side.

type pair struct {
	c Chunk
	l []int32
}

func TestLongRowsOfSteps(t *testing.T) {
	by := rule(1)
	row := []pair{{}}
	for step := range 60000 {
		p, q := row[by.next(len(row))], row[by.next(len(row))]
		switch by.next(3) {
		case 0:
			l := by.list(by.next(most + 1))
			row = append(row, pair{made(t, l), l})
		case 1:
			i := by.next(len(p.l) + 1)
			checkSplit(t, p.c, p.l, i)
			a, b, _ := p.c.Split(i)
			row = append(row, pair{a, p.l[:i]}, pair{b, p.l[i:]})
		case 2:
			checkJoin(t, p.l, q.l)
			if both, e := p.c.Join(q.c); e == api.OK {
				row = append(row, pair{both, slices.Concat(p.l, q.l)})
			}
		}
		if last := row[len(row)-1]; step%10 == 0 {
			check(t, fmt.Sprint("step ", step), last.c, last.l)
		}
		if len(row) > 40 {
			row = slices.Delete(row, 0, len(row)-20)
		}
	}
}
