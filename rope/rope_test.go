package rope

import (
	"fmt"
	"math"
	"math/bits"
	"slices"
	"testing"

	"rubric/api"
)

// The signatures are the chapter's.
var (
	_ func() *Rope                               = New
	_ func(*Rope) int                            = (*Rope).Len
	_ func(*Rope) int                            = (*Rope).Newlines
	_ func(*Rope, int) (int32, api.Errno)        = (*Rope).At
	_ func(*Rope, int, int) ([]int32, api.Errno) = (*Rope).Slice
	_ func(*Rope, int, []int32) api.Errno        = (*Rope).Insert
	_ func(*Rope, int, int) api.Errno            = (*Rope).Delete
	_ func(*Rope, int) (int, api.Errno)          = (*Rope).LineOf
	_ func(*Rope, int) (int, api.Errno)          = (*Rope).OffsetOf
	_ func(*Rope, int) (*Rope, api.Errno)        = (*Rope).Split
	_ func(*Rope, *Rope) api.Errno               = (*Rope).Concat
	_ func(*Rope) int                            = (*Rope).Height
	_ func(*Rope) *Rope                          = (*Rope).Copy
)

// The model: the chapter's words, said of a plain list of runes.

const (
	most  = 1 << 29
	short = 32
)

func isRune(r int32) bool {
	switch {
	case r < 0:
		return false
	case r < 0xd800:
		return true
	case r <= 0xdfff:
		return false
	case r <= 0x10ffff:
		return true
	}
	return false
}

// lines answers where the lines begin.
func lines(l []int32) []int {
	at := []int{0}
	for i, r := range l {
		if r == 10 {
			at = append(at, i+1)
		}
	}
	return at
}

// ahead answers how many newlines stand ahead of i.
func ahead(l []int32, i int) int {
	n := 0
	for _, r := range l[:i] {
		if r == 10 {
			n++
		}
	}
	return n
}

// wantInsert answers what Insert answers of a list of n runes.
func wantInsert(n, i int, l []int32) api.Errno {
	for _, r := range l {
		if !isRune(r) {
			return 3
		}
	}
	if i < 0 || i > n {
		return 5
	}
	if n+len(l) > most {
		return 8
	}
	return 0
}

// wantReach answers what is told of places i and j of a list of n runes.
func wantReach(n, i, j int) api.Errno {
	if 0 <= i && i <= j && j <= n {
		return 0
	}
	return 5
}

// Numbers and lists that the tests go over.

// ends are numbers of no place, and some about those that are.
func ends() []int {
	return []int{math.MinInt, math.MinInt + 1, math.MinInt32 - 1, math.MinInt32, -1 << 29, -257, -256, -33, -32, -31, -2, -1,
		255, 256, 257, 1 << 29, 1<<29 + 1, math.MaxInt32, math.MaxInt32 + 1, 1 << 32, 1<<32 + 1, 1 << 62, math.MaxInt - 1, math.MaxInt}
}

// places are those numbers, and all about a list of n.
func places(n int) []int {
	at := ends()
	for i := -3; i <= n+3; i++ {
		at = append(at, i)
	}
	return at
}

// few are some of those places.
func few(n int) []int {
	return []int{math.MinInt, -1, 0, 1, n / 3, n / 2, n - 33, n - 1, n, n + 1, 31, 32, 33, math.MaxInt}
}

// edges are the runes at which something changes, and such as are a newline but for one bit.
func edges() []int32 {
	return []int32{0, 1, 9, 10, 11, 8, 14, 2, 26, 42, 74, 138, 13, 127, 128, 255, 256, 266, 0x7ff, 0x800, 0x100a, 0x2028, 0x2029, 0x85,
		0xd7fe, 0xd7ff, 0xe000, 0xe001, 0xfeff, 0xfffd, 0xfffe, 0xffff, 0x10000, 0x1000a, 0x10fffe, 0x10ffff}
}

// wrongs are numbers that are no runes.
func wrongs() []int32 {
	return []int32{math.MinInt32, math.MinInt32 + 1, math.MinInt32 + 10, -0x110000, -0x10ffff, -65536, -256, -11, -10, -2, -1,
		0xd800, 0xd801, 0xd80a, 0xdbff, 0xdc00, 0xdffe, 0xdfff, 0x110000, 0x110001, 0x11000a, 0x1fffff, 0x200000, math.MaxInt32 - 1, math.MaxInt32}
}

// lengths are those about short rows.
func lengths() []int {
	return []int{0, 1, 2, 3, 15, 16, 17, 30, 31, 32, 33, 34, 47, 48, 49, 63, 64, 65, 66, 95, 96, 97, 127, 128, 129, 160, 161}
}

// letters are n runes, no two alike and none a newline.
func letters(first int32, n int) []int32 {
	l := make([]int32, n)
	for i := range l {
		l[i] = first + int32(i)
	}
	return l
}

// alike are n times r.
func alike(r int32, n int) []int32 {
	return slices.Repeat([]int32{r}, n)
}

// rule is a row of numbers that looks like chance and is the same at each run.
type rule uint64

func (r *rule) next(n int) int {
	*r = *r*6364136223846793005 + 1442695040888963407
	return int(uint64(*r) >> 33 % uint64(n))
}

func (r *rule) list(n int) []int32 {
	l := make([]int32, n)
	for i := range l {
		if l[i] = edges()[r.next(len(edges()))]; r.next(4) == 0 {
			l[i] = 10
		}
	}
	return l
}

// texts are lists of n runes: of newlines alone, without any, with one at the front, at the end, at both, in the midst, without one in the midst, and by a rule.
func texts(n int) [][]int32 {
	by := rule(n)
	row := [][]int32{alike(10, n), letters(97, n), by.list(n)}
	if n == 0 {
		return row
	}
	for _, at := range [][]int{{0}, {n - 1}, {0, n - 1}, {n / 2}} {
		one, other := letters(97, n), alike(10, n)
		for _, i := range at {
			one[i], other[i] = 10, 98
		}
		row = append(row, one, other)
	}
	return row
}

// A rope, with the list that it stands for.

type known struct {
	r *Rope
	l []int32
}

func made(t *testing.T, l []int32) *known {
	t.Helper()
	k := &known{r: New()}
	k.insert(t, 0, l)
	return k
}

// insert hands in memory that is written over when the call has come back.
func (k *known) insert(t *testing.T, i int, l []int32) {
	t.Helper()
	in := slices.Concat(l, []int32{77, 78})[:len(l)]
	e := k.r.Insert(i, in)
	if !slices.Equal(in, l) {
		t.Fatalf("Insert wrote to what it was handed in: %x, and it was %x", in, l)
	}
	clear(in)
	if want := wantInsert(len(k.l), i, l); e != want {
		t.Fatalf("of %x: Insert(%d, %x) %d, want %d", k.l, i, l, e, want)
	}
	if e == 0 {
		k.l = slices.Concat(k.l[:i], l, k.l[i:])
	}
}

func (k *known) delete(t *testing.T, i, j int) {
	t.Helper()
	e := k.r.Delete(i, j)
	if want := wantReach(len(k.l), i, j); e != want {
		t.Fatalf("of %x: Delete(%d, %d) %d, want %d", k.l, i, j, e, want)
	}
	if e == 0 {
		k.l = slices.Concat(k.l[:i], k.l[j:])
	}
}

// split answers nil, if there is no such place.
func (k *known) split(t *testing.T, i int) *known {
	t.Helper()
	r, e := k.r.Split(i)
	if want := wantReach(len(k.l), i, i); e != want || (r == nil) != (e != 0) || r == k.r {
		t.Fatalf("of %x: Split(%d) %v, %d, want %d", k.l, i, r, e, want)
	}
	if e != 0 {
		return nil
	}
	o := &known{r, slices.Clone(k.l[i:])}
	k.l = slices.Clone(k.l[:i])
	return o
}

func (k *known) concat(t *testing.T, o *known) {
	t.Helper()
	if e := k.r.Concat(o.r); e != 0 {
		t.Fatalf("of %x: Concat(%x) %d", k.l, o.l, e)
	}
	k.l = slices.Concat(k.l, o.l)
}

func (k *known) copy(t *testing.T) *known {
	t.Helper()
	r := k.r.Copy()
	if r == nil || r == k.r {
		t.Fatalf("of %x: Copy %v", k.l, r)
	}
	return &known{r, slices.Clone(k.l)}
}

// runes asks how many runes there are, and which.
func (k *known) runes(t *testing.T, what string) {
	t.Helper()
	if n := k.r.Len(); n != len(k.l) {
		t.Fatalf("%s, of %x: Len %d", what, k.l, n)
	}
	if n, want := k.r.Newlines(), ahead(k.l, len(k.l)); n != want {
		t.Fatalf("%s, of %x: Newlines %d, want %d", what, k.l, n, want)
	}
	k.slice(t, what, 0, len(k.l))
	k.height(t, what)
}

func (k *known) slice(t *testing.T, what string, i, j int) {
	t.Helper()
	var want []int32
	wantE := wantReach(len(k.l), i, j)
	if wantE == 0 {
		want = k.l[i:j]
	}
	if l, e := k.r.Slice(i, j); !slices.Equal(l, want) || e != wantE {
		t.Fatalf("%s, of %x: Slice(%d, %d) %x, %d, want %x, %d", what, k.l, i, j, l, e, want, wantE)
	}
}

func (k *known) height(t *testing.T, what string) {
	t.Helper()
	h, digits := k.r.Height(), bits.Len(uint(len(k.l)))
	if h > 2*digits || (h < 1) != (len(k.l) == 0) || h < 0 {
		t.Fatalf("%s, of %x: Height %d, at most %d", what, k.l, h, 2*digits)
	}
}

// check asks the rope all that can be read of it.
func (k *known) check(t *testing.T, what string) {
	t.Helper()
	k.runes(t, what)
	for _, i := range few(len(k.l)) {
		for _, j := range few(len(k.l)) {
			k.slice(t, what, i, j)
		}
	}
	for _, i := range places(len(k.l)) {
		k.at(t, what, i)
		k.lineOf(t, what, i)
		k.offsetOf(t, what, i)
	}
}

func (k *known) at(t *testing.T, what string, i int) {
	t.Helper()
	want, wantE := int32(0), api.Errno(5)
	if 0 <= i && i < len(k.l) {
		want, wantE = k.l[i], 0
	}
	if r, e := k.r.At(i); r != want || e != wantE {
		t.Fatalf("%s, of %x: At(%d) %x, %d, want %x, %d", what, k.l, i, r, e, want, wantE)
	}
}

func (k *known) lineOf(t *testing.T, what string, i int) {
	t.Helper()
	want, wantE := 0, api.Errno(5)
	if 0 <= i && i <= len(k.l) {
		want, wantE = ahead(k.l, i), 0
	}
	line, e := k.r.LineOf(i)
	if line != want || e != wantE {
		t.Fatalf("%s, of %x: LineOf(%d) %d, %d, want %d, %d", what, k.l, i, line, e, want, wantE)
	}
	if e != 0 {
		return
	}
	if at, e := k.r.OffsetOf(line); at > i || e != 0 {
		t.Fatalf("%s, of %x: place %d is in line %d, which begins at %d, %d", what, k.l, i, line, at, e)
	}
}

func (k *known) offsetOf(t *testing.T, what string, line int) {
	t.Helper()
	want, wantE := 0, api.Errno(5)
	if at := lines(k.l); 0 <= line && line < len(at) {
		want, wantE = at[line], 0
	}
	if i, e := k.r.OffsetOf(line); i != want || e != wantE {
		t.Fatalf("%s, of %x: OffsetOf(%d) %d, %d, want %d, %d", what, k.l, line, i, e, want, wantE)
	}
}

// blanks are ropes without runes, however they came by it.
func blanks(t *testing.T) map[string]*known {
	t.Helper()
	row := map[string]*known{"new": {r: New()}, "zero": {r: &Rope{}}}
	row["copy of a new one"] = row["new"].copy(t)
	row["copy of a zero one"] = row["zero"].copy(t)
	row["split off a new one"] = made(t, nil).split(t, 0)
	row["split off a zero one"] = (&known{r: &Rope{}}).split(t, 0)
	row["split off at the end"] = made(t, letters(97, 50)).split(t, 50)
	row["split at 0"] = made(t, letters(97, 50))
	row["split at 0"].split(t, 0)
	row["zero, split at 0"] = &known{r: &Rope{}}
	row["zero, split at 0"].split(t, 0)
	row["emptied"] = made(t, letters(97, 50))
	row["emptied"].delete(t, 0, 50)
	row["zero, behind itself"] = &known{r: &Rope{}}
	row["zero, behind itself"].concat(t, row["zero, behind itself"])
	row["zero, and a zero one behind"] = &known{r: &Rope{}}
	row["zero, and a zero one behind"].concat(t, &known{r: &Rope{}})
	row["zero, with nothing put in"] = &known{r: &Rope{}}
	row["zero, with nothing put in"].insert(t, 0, nil)
	row["zero, with nothing taken out"] = &known{r: &Rope{}}
	row["zero, with nothing taken out"].delete(t, 0, 0)
	return row
}

// The chapter's examples.

func TestExamples(t *testing.T) {
	r := New()
	if e := r.Insert(0, []int32{'a', 'b', 10, 'c'}); e != api.OK {
		t.Fatalf("Insert %d", e)
	}
	for _, c := range []struct{ i, line int }{{2, 0}, {3, 1}} {
		if line, e := r.LineOf(c.i); line != c.line || e != api.OK {
			t.Errorf("LineOf(%d) %d, %d", c.i, line, e)
		}
	}
	if i, e := r.OffsetOf(1); i != 3 || e != api.OK {
		t.Errorf("OffsetOf(1) %d, %d", i, e)
	}
	if i, e := r.OffsetOf(2); i != 0 || e != api.ErrRange {
		t.Errorf("OffsetOf(2) %d, %d", i, e)
	}
	if e := r.Delete(1, 3); e != api.OK {
		t.Errorf("Delete(1, 3) %d", e)
	}
	if l, e := r.Slice(0, 2); !slices.Equal(l, []int32{'a', 'c'}) || e != api.OK {
		t.Errorf("Slice(0, 2) %x, %d", l, e)
	}
}

func TestLimitsAndErrorsAreThoseOfTheDocument(t *testing.T) {
	if api.MaxLen != most || api.MaxChunk != short || api.Newline != 10 {
		t.Fatalf("MaxLen %d, MaxChunk %d, Newline %d", api.MaxLen, api.MaxChunk, api.Newline)
	}
	if api.OK != 0 || api.ErrNil != 1 || api.ErrMalformed != 3 || api.ErrRange != 5 || api.ErrTooLong != 8 {
		t.Fatalf("errors %d, %d, %d, %d, %d", api.OK, api.ErrNil, api.ErrMalformed, api.ErrRange, api.ErrTooLong)
	}
}

// P10.1

func TestBlankOnes(t *testing.T) {
	for what, k := range blanks(t) {
		k.check(t, what)
		if k.r.Len() != 0 || k.r.Newlines() != 0 || k.r.Height() != 0 {
			t.Fatalf("%s: %d, %d, %d", what, k.r.Len(), k.r.Newlines(), k.r.Height())
		}
	}
	if a, b := New(), New(); a == b {
		t.Fatal("two new ones are one")
	}
}

func TestBlankOnesAreAsNewOnes(t *testing.T) {
	for what, k := range blanks(t) {
		k.insert(t, 0, []int32{97, -1})
		k.insert(t, 1, []int32{97})
		k.delete(t, 0, 1)
		k.split(t, 1)
		k.split(t, -1)
		k.check(t, what+", after what was refused")
	}
	for what, k := range blanks(t) {
		k.insert(t, 0, letters(97, 40))
		k.check(t, what+", with runes put in")
		k.insert(t, 40, []int32{10})
		k.check(t, what+", with a newline put in")
	}
	for what, k := range blanks(t) {
		k.concat(t, made(t, []int32{97, 10}))
		k.check(t, what+", with runes behind")
		o := made(t, []int32{98})
		for _, b := range blanks(t) {
			o.concat(t, b)
			b.concat(t, o)
			b.check(t, what+", with runes behind")
		}
		o.check(t, "with no runes behind")
	}
}

func TestAllLengths(t *testing.T) {
	for n := range 3*short + 5 {
		for _, l := range texts(n) {
			made(t, l).check(t, "put in at once")
		}
	}
	for _, n := range []int{127, 128, 129, 1023, 1024, 1025} {
		made(t, texts(n)[2]).check(t, "put in at once")
	}
}

func TestSliceOfAllPlaces(t *testing.T) {
	for _, n := range []int{1, 31, 32, 33, 64, 65, 97} {
		k := made(t, letters(97, n))
		for i := range n + 2 {
			for j := range n + 2 {
				k.slice(t, "all places", i-1, j)
			}
		}
	}
	k := made(t, letters(97, 200))
	for _, i := range places(200) {
		for _, j := range ends() {
			k.slice(t, "far places", i, j)
			k.slice(t, "far places", j, i)
		}
	}
}

// P10.2

func TestInsertAtAllPlaces(t *testing.T) {
	for _, n := range []int{0, 1, 2, 5, 31, 32, 33, 64, 70} {
		whole := made(t, texts(n)[2])
		for _, i := range places(n) {
			for _, m := range []int{0, 1, 2, 30, 31, 32, 33, 65} {
				k := whole.copy(t)
				k.insert(t, i, texts(m)[2])
				k.runes(t, fmt.Sprintf("Insert(%d) of %d", i, m))
				if e := wantInsert(n, i, nil); e == 0 {
					k.delete(t, i, i+m)
					k.runes(t, "inserted and deleted again")
				}
			}
		}
		whole.check(t, "copied from")
	}
}

func TestInsertOfManyAtOnce(t *testing.T) {
	by := rule(3)
	for _, n := range []int{0, 1, 33, 1000} {
		for _, m := range []int{1000, 4097, 1 << 15} {
			for _, i := range []int{0, n / 2, n} {
				k := made(t, letters(97, n))
				k.insert(t, i, by.list(m))
				k.runes(t, "many at once")
			}
		}
	}
}

func TestInsertOneByOne(t *testing.T) {
	by := rule(4)
	for what, place := range map[string]func(n int) int{
		"at the front":     func(n int) int { return 0 },
		"behind":           func(n int) int { return n },
		"ahead of the end": func(n int) int { return max(0, n-1) },
		"behind the first": func(n int) int { return min(1, n) },
		"in the midst":     func(n int) int { return n / 2 },
		"at one place":     func(n int) int { return min(40, n) },
		"here and there":   func(n int) int { return n * 7919 % (n + 1) },
		"by a rule":        func(n int) int { return by.next(n + 1) },
	} {
		k := made(t, nil)
		for n := range 700 {
			k.insert(t, place(n), by.list(1))
			k.runes(t, what)
		}
		k.check(t, what)
		for len(k.l) > 0 {
			i := min(place(len(k.l)), len(k.l)-1)
			k.delete(t, i, i+1)
			k.runes(t, "taken out "+what)
		}
	}
}

// Every number that is a rune is one here, and every other number is none.
func TestInsertOfAllNumbers(t *testing.T) {
	var all []int32
	k := made(t, []int32{97, 10, 98})
	for r := int32(-0x1000); r < 0x112000; r++ {
		if isRune(r) {
			all = append(all, r)
			continue
		}
		k.insert(t, 1, []int32{r})
	}
	for bit := range 32 {
		for _, r := range edges() {
			if r ^= int32(uint32(1) << bit); !isRune(r) {
				k.insert(t, 1, []int32{r})
			}
		}
	}
	k.check(t, "after what was refused")
	k.insert(t, 1, all)
	k.runes(t, "all runes")
}

func TestInsertOfWhatIsNoRune(t *testing.T) {
	for _, n := range []int{0, 1, 40} {
		k := made(t, texts(n)[2])
		for _, m := range []int{1, 2, 3, 31, 32, 33, 34, 63, 64, 65, 100} {
			for _, at := range []int{0, 1, m / 3, m / 2, 31, 32, 33, m - 2, m - 1} {
				if at < 0 || at >= m {
					continue
				}
				for _, r := range wrongs() {
					l := letters(97, m)
					l[at] = r
					for _, i := range []int{0, n / 2, n, -1, n + 1, math.MinInt, math.MaxInt} {
						k.insert(t, i, l)
					}
				}
			}
		}
		k.check(t, "after what was refused")
	}
}

func TestInsertOfWhatIsNoRuneAtAllPlacesOfAList(t *testing.T) {
	k := made(t, letters(97, 40))
	for _, m := range []int{1, 5, 32, 33, 70, 1000} {
		for at := range m {
			for _, r := range []int32{-1, 0xd800, 0xdfff, 0x110000} {
				l := letters(97, m)
				l[at], l[m*at%m] = r, r
				k.insert(t, 7, l)
				if k.r.Len() != 40 {
					t.Fatalf("refused, and there are %d runes", k.r.Len())
				}
			}
		}
	}
	k.check(t, "after what was refused")
}

func TestDeleteAtAllPlaces(t *testing.T) {
	for _, n := range []int{0, 1, 2, 31, 32, 33, 70} {
		whole := made(t, texts(n)[2])
		for i := -2; i <= n+2; i++ {
			for j := -2; j <= n+2; j++ {
				k := whole.copy(t)
				k.delete(t, i, j)
				k.runes(t, fmt.Sprintf("Delete(%d, %d)", i, j))
				if wantReach(n, i, j) == 0 {
					k.insert(t, i, whole.l[i:j])
					k.runes(t, "deleted and inserted again")
				}
			}
		}
		for _, i := range places(n) {
			for _, j := range ends() {
				k := whole.copy(t)
				k.delete(t, i, j)
				k.delete(t, min(j, 256), i)
				k.runes(t, fmt.Sprintf("Delete(%d, %d)", i, j))
			}
		}
		whole.check(t, "copied from")
	}
}

func TestDeleteOfMany(t *testing.T) {
	by := rule(6)
	l := by.list(3000)
	for _, c := range [][2]int{{0, 0}, {3000, 3000}, {0, 3000}, {0, 1500}, {1500, 3000}, {1, 2999}, {0, 2999}, {1, 3000}, {32, 64}, {31, 65}, {40, 50}, {1000, 2000}, {1500, 1500}} {
		k := made(t, l)
		k.delete(t, c[0], c[1])
		k.check(t, fmt.Sprintf("Delete(%d, %d)", c[0], c[1]))
	}
}

// P10.3: LineOf and OffsetOf of all places and lines are asked by check.

func TestLinesOfLongTexts(t *testing.T) {
	by := rule(8)
	for _, every := range []int{1, 2, 31, 32, 33, 64, 100, 5000} {
		l := letters(97, 3000)
		for i := every - 1; i < len(l); i += every {
			l[i] = 10
		}
		k := made(t, l)
		k.check(t, "newlines at equal distances")
		for range 50 {
			i := by.next(len(k.l) + 1)
			k.delete(t, i, min(len(k.l), i+by.next(90)))
			k.insert(t, by.next(len(k.l)+1), by.list(by.next(50)))
		}
		k.check(t, "newlines at distances by a rule")
	}
}

// P10.4

func TestSplitAndConcatAtAllPlaces(t *testing.T) {
	for _, n := range lengths() {
		for _, l := range texts(n)[:3] {
			k := made(t, l)
			for i := -2; i <= n+2; i++ {
				o := k.split(t, i)
				k.runes(t, fmt.Sprintf("split at %d", i))
				if o == nil {
					continue
				}
				o.runes(t, fmt.Sprintf("split off at %d", i))
				k.concat(t, o)
				k.runes(t, "split and put behind again")
				o.runes(t, "put behind")
			}
			for _, i := range ends() {
				if o := k.split(t, i); o != nil {
					t.Fatalf("of %d runes: Split(%d)", n, i)
				}
			}
			k.check(t, "split and put behind again at all places")
		}
	}
}

func TestPiecesOfSplit(t *testing.T) {
	for _, n := range []int{1, 32, 33, 200} {
		for _, i := range []int{0, 1, n / 2, n - 1, n} {
			k := made(t, texts(n)[2])
			o := k.split(t, i)
			k.check(t, "split")
			o.check(t, "split off")
		}
	}
}

func TestConcatOfAllLengths(t *testing.T) {
	for _, n := range lengths() {
		for _, m := range lengths() {
			k, o := made(t, texts(n)[2]), made(t, texts(m)[1])
			k.concat(t, o)
			k.runes(t, "with another one behind")
			o.runes(t, "put behind")
		}
	}
	k, o := made(t, texts(70)[2]), made(t, texts(45)[3])
	k.concat(t, o)
	k.check(t, "with another one behind")
	o.check(t, "put behind")
}

func TestConcatWithItself(t *testing.T) {
	for _, n := range lengths() {
		for _, l := range texts(n) {
			k := made(t, l)
			for range 3 {
				k.concat(t, k)
				k.runes(t, "behind itself")
			}
			k.insert(t, len(k.l)/2, []int32{10, 10, 99})
			k.runes(t, "behind itself, and changed")
			k.delete(t, 0, len(k.l)/3)
			k.runes(t, "behind itself, and changed")
			o := k.split(t, len(k.l)/2)
			o.concat(t, k)
			o.check(t, "behind itself, and split")
			k.check(t, "behind itself, and split")
		}
	}
}

func TestConcatOfOneThatIsNotThere(t *testing.T) {
	for _, n := range []int{0, 1, 40} {
		k := made(t, texts(n)[2])
		if e := k.r.Concat(nil); e != api.ErrNil {
			t.Fatalf("Concat(nil) %d", e)
		}
		k.check(t, "after what was refused")
	}
	if e := (&Rope{}).Concat(nil); e != api.ErrNil {
		t.Fatalf("a zero one's Concat(nil) %d", e)
	}
}

// What was split off, copied and put behind goes its own way.
func TestOwnWays(t *testing.T) {
	by := rule(9)
	for _, n := range []int{1, 20, 32, 100, 400} {
		k := made(t, by.list(n))
		c := k.copy(t)
		o := k.split(t, n/2)
		k.concat(t, o)
		k.concat(t, k)
		k.concat(t, c)
		d := k.copy(t)
		all := []*known{k, c, o, d}
		for step := range 200 {
			p := all[step%len(all)]
			i := by.next(len(p.l) + 1)
			if step%3 == 0 {
				p.delete(t, i, min(len(p.l), i+by.next(20)))
			} else {
				p.insert(t, i, by.list(by.next(12)))
			}
			for _, q := range all {
				q.runes(t, "gone its own way")
			}
		}
		for _, q := range all {
			q.delete(t, 0, len(q.l))
			for _, p := range all {
				p.runes(t, "another one emptied")
			}
		}
	}
}

func TestToldRunesAreTheCallers(t *testing.T) {
	for _, n := range []int{1, 5, 32, 33, 100} {
		k := made(t, letters(97, n))
		a, _ := k.r.Slice(0, n)
		b, _ := k.r.Slice(0, n)
		clear(a)
		if !slices.Equal(b, k.l) {
			t.Fatalf("two slices of %d share memory", n)
		}
		_ = append(b[:n/2], alike(99, n)...)
		clear(b[:cap(b)])
		k.check(t, "after what was told was written over")
	}
}

// What is refused changes nothing, and beside an error there is nothing.
func TestRefused(t *testing.T) {
	for _, n := range []int{0, 1, 33, 90} {
		k := made(t, texts(n)[2])
		height := k.r.Height()
		for _, i := range append(ends(), -3, n+1, n+2) {
			if 0 <= i && i <= n {
				continue
			}
			k.insert(t, i, nil)
			k.insert(t, i, []int32{97})
			k.delete(t, i, i)
			k.delete(t, 0, max(i, n+1))
			k.delete(t, min(i, -1), n)
			k.split(t, i)
			k.slice(t, "refused", i, i)
			k.at(t, "refused", i)
			k.lineOf(t, "refused", i)
		}
		k.delete(t, 1, 0)
		k.delete(t, n, n-1)
		k.delete(t, n/2+1, n/2)
		k.check(t, "after what was refused")
		if k.r.Height() != height {
			t.Fatalf("refused, and the height is %d, and was %d", k.r.Height(), height)
		}
	}
}

func TestRefusedLeavesAZeroOneZero(t *testing.T) {
	var r Rope
	r.Insert(1, nil)
	r.Insert(0, []int32{-1})
	r.Delete(0, 1)
	r.Split(1)
	r.Concat(nil)
	r.At(0)
	r.Slice(0, 1)
	r.Slice(0, 0)
	r.LineOf(0)
	r.OffsetOf(0)
	r.OffsetOf(1)
	r.Len()
	r.Newlines()
	r.Height()
	r.Copy()
	New().Concat(&r)
	if r != (Rope{}) {
		t.Fatal("it is not zero any more")
	}
}

func TestOneThatIsNotThere(t *testing.T) {
	var r *Rope
	if n, m, h, c := r.Len(), r.Newlines(), r.Height(), r.Copy(); n != 0 || m != 0 || h != 0 || c != nil {
		t.Fatalf("Len %d, Newlines %d, Height %d, Copy %v", n, m, h, c)
	}
	for _, i := range places(2) {
		if x, e := r.At(i); x != 0 || e != api.ErrNil {
			t.Fatalf("At(%d) %d, %d", i, x, e)
		}
		if o, e := r.Split(i); o != nil || e != api.ErrNil {
			t.Fatalf("Split(%d) %v, %d", i, o, e)
		}
		if n, e := r.LineOf(i); n != 0 || e != api.ErrNil {
			t.Fatalf("LineOf(%d) %d, %d", i, n, e)
		}
		if n, e := r.OffsetOf(i); n != 0 || e != api.ErrNil {
			t.Fatalf("OffsetOf(%d) %d, %d", i, n, e)
		}
		for _, j := range []int{math.MinInt, -1, 0, 1, math.MaxInt} {
			if l, e := r.Slice(i, j); len(l) != 0 || e != api.ErrNil {
				t.Fatalf("Slice(%d, %d) %v, %d", i, j, l, e)
			}
			if e := r.Delete(i, j); e != api.ErrNil {
				t.Fatalf("Delete(%d, %d) %d", i, j, e)
			}
		}
		for _, l := range [][]int32{nil, {}, {97}, {-1}, alike(10, 40), alike(0xd800, 40)} {
			if e := r.Insert(i, l); e != api.ErrNil {
				t.Fatalf("Insert(%d, %x) %d", i, l, e)
			}
		}
	}
	for _, o := range []*Rope{nil, New(), {}, made(t, letters(97, 40)).r} {
		if e := r.Concat(o); e != api.ErrNil {
			t.Fatalf("Concat(%v) %d", o, e)
		}
	}
}

// P10.5: the height of each rope that is made here is asked by runes. These are made in ways that bring a tree out of balance, if anything does.

func TestHeightOfLongOnes(t *testing.T) {
	by := rule(11)
	k := made(t, nil)
	for range 400 {
		k.concat(t, made(t, by.list(1+by.next(40))))
		k.height(t, "short ones put behind")
	}
	for range 3000 {
		o := k.split(t, by.next(len(k.l)+1))
		o.concat(t, k)
		k = o
		k.height(t, "split and put behind the other way round")
	}
	k.runes(t, "split and put behind the other way round")
	for len(k.l) > 0 {
		o := k.split(t, min(len(k.l), 1+by.next(3)))
		k.height(t, "split off at the front")
		o.height(t, "split off at the front")
		k = o
	}
	front := made(t, by.list(5000))
	for len(front.l) > 0 {
		front.split(t, max(0, len(front.l)-1-by.next(3)))
		front.height(t, "split off at the end")
	}
}

func TestHeightOfWhatIsLeft(t *testing.T) {
	for _, keep := range []int{1, 2, 7, 31, 32, 33} {
		k := made(t, letters(97, 6000))
		for i := 0; i < len(k.l); i += keep {
			k.delete(t, i, min(len(k.l), i+60))
			k.height(t, "little left here and there")
		}
		k.runes(t, "little left here and there")
	}
}

func TestHeightOfOneWithinAnother(t *testing.T) {
	k := made(t, []int32{97})
	for range 300 {
		o := made(t, []int32{10})
		o.concat(t, k)
		o.concat(t, made(t, []int32{98}))
		k = o
		k.runes(t, "one rune put at each end")
	}
}

// The greatest length

// greatest answers a rope of as many runes as may be, a newline behind each letter.
func greatest(t *testing.T) *Rope {
	t.Helper()
	r := New()
	if e := r.Insert(0, []int32{97, 10}); e != api.OK {
		t.Fatalf("Insert %d", e)
	}
	for r.Len() < most {
		if e := r.Concat(r); e != api.OK {
			t.Fatalf("Concat %d", e)
		}
	}
	checkGreatest(t, "doubled", r)
	return r
}

// checkGreatest asks such a rope about places all over it.
func checkGreatest(t *testing.T, what string, r *Rope) {
	t.Helper()
	if n, m, h := r.Len(), r.Newlines(), r.Height(); n != most || m != most/2 || h < 1 || h > 60 {
		t.Fatalf("%s: Len %d, Newlines %d, Height %d", what, n, m, h)
	}
	for _, i := range []int{0, 1, 2, 31, 32, 33, 1000, most/3 - 1, most / 2, most/2 + 1, most - 33, most - 2, most - 1} {
		x, e := r.At(i)
		line, lineE := r.LineOf(i)
		at, atE := r.OffsetOf(line)
		if x != []int32{97, 10}[i%2] || line != i/2 || at != i-i%2 || e != api.OK || lineE != api.OK || atE != api.OK {
			t.Fatalf("%s: at %d %d, line %d, which begins at %d, %d, %d, %d", what, i, x, line, at, e, lineE, atE)
		}
		j := min(i+50, most)
		if l, e := r.Slice(i, j); e != api.OK || !slices.Equal(l, slices.Repeat([]int32{97, 10}, 60)[i%2:i%2+j-i]) {
			t.Fatalf("%s: Slice(%d, %d) %x, %d", what, i, j, l, e)
		}
	}
	if line, e := r.LineOf(most); line != most/2 || e != api.OK {
		t.Fatalf("%s: LineOf(%d) %d, %d", what, most, line, e)
	}
	if i, e := r.OffsetOf(most / 2); i != most || e != api.OK {
		t.Fatalf("%s: OffsetOf(%d) %d, %d", what, most/2, i, e)
	}
	for _, i := range []int{-1, most + 1} {
		_, at := r.At(most)
		_, line := r.LineOf(i)
		_, offset := r.OffsetOf(i)
		_, slice := r.Slice(most, i)
		if at != api.ErrRange || line != api.ErrRange || offset != api.ErrRange || slice != api.ErrRange {
			t.Fatalf("%s: place %d: %d, %d, %d, %d", what, i, at, line, offset, slice)
		}
	}
}

func wantErrno(t *testing.T, what string, e, want api.Errno) {
	t.Helper()
	if e != want {
		t.Fatalf("%s: %d, want %d", what, e, want)
	}
}

func TestGreatestLength(t *testing.T) {
	r := greatest(t)
	for _, i := range []int{0, 1, most / 2, most} {
		wantErrno(t, "one more", r.Insert(i, []int32{97}), api.ErrTooLong)
		wantErrno(t, "many more", r.Insert(i, alike(10, 100)), api.ErrTooLong)
		wantErrno(t, "none more", r.Insert(i, nil), api.OK)
		wantErrno(t, "one that is no rune", r.Insert(i, []int32{97, -1}), api.ErrMalformed)
	}
	for _, i := range []int{-1, most + 1, math.MinInt, math.MaxInt} {
		wantErrno(t, "one more at no place", r.Insert(i, []int32{97}), api.ErrRange)
		wantErrno(t, "one that is no rune at no place", r.Insert(i, []int32{0xd800}), api.ErrMalformed)
	}
	wantErrno(t, "behind itself", r.Concat(r), api.ErrTooLong)
	wantErrno(t, "a copy behind", r.Concat(r.Copy()), api.ErrTooLong)
	wantErrno(t, "one that is not there", r.Concat(nil), api.ErrNil)
	one := made(t, []int32{97})
	wantErrno(t, "one behind", r.Concat(one.r), api.ErrTooLong)
	wantErrno(t, "behind one", one.r.Concat(r), api.ErrTooLong)
	one.check(t, "after what was refused")
	for what, k := range blanks(t) {
		wantErrno(t, what, r.Concat(k.r), api.OK)
		k.check(t, what)
	}
	checkGreatest(t, "after what was refused", r)
	b := New()
	wantErrno(t, "behind none", b.Concat(r), api.OK)
	checkGreatest(t, "behind none", b)
}

func TestAboutTheGreatestLength(t *testing.T) {
	r := greatest(t)
	for _, n := range []int{1, 2, 32, 33, 100} {
		wantErrno(t, "some less", r.Delete(most/2-n, most/2), api.OK)
		l := slices.Repeat([]int32{97, 10}, 60)[n%2 : n%2+n]
		wantErrno(t, "one too many", r.Insert(most/2-n, append(slices.Clone(l), 97)), api.ErrTooLong)
		wantErrno(t, "one too many behind", r.Concat(made(t, alike(97, n+1)).r), api.ErrTooLong)
		if r.Len() != most-n {
			t.Fatalf("Len %d", r.Len())
		}
		wantErrno(t, "just as many", r.Insert(most/2-n, l), api.OK)
		checkGreatest(t, "as many as there were", r)
		wantErrno(t, "some less", r.Delete(most-n, most), api.OK)
		wantErrno(t, "just as many behind", r.Concat(made(t, l).r), api.OK)
		checkGreatest(t, "as many as there were", r)
	}
	for _, i := range []int{0, 1, 999, most/2 + 1, most - 1, most} {
		o, e := r.Split(i)
		if e != api.OK || r.Len() != i || o.Len() != most-i || o.Newlines() != most/2-i/2 || r.Newlines() != i/2 {
			t.Fatalf("Split(%d) %d, and %d are left", i, o.Len(), r.Len())
		}
		c := o.Copy()
		wantErrno(t, "all gone", o.Delete(0, o.Len()), api.OK)
		wantErrno(t, "behind again", r.Concat(c), api.OK)
		checkGreatest(t, "split and put behind again", r)
	}
}

// Long rows of calls

// TestAllShortRows goes through all rows of steps.
func TestAllShortRows(t *testing.T) {
	steps := []func(k *known) *known{
		func(k *known) *known { k.insert(t, 0, []int32{97}); return k },
		func(k *known) *known { k.insert(t, len(k.l), []int32{10, 98}); return k },
		func(k *known) *known { k.insert(t, len(k.l)/2, letters(99, 31)); return k },
		func(k *known) *known { k.insert(t, min(1, len(k.l)), alike(10, 33)); return k },
		func(k *known) *known { k.delete(t, 0, min(1, len(k.l))); return k },
		func(k *known) *known { k.delete(t, len(k.l)/3, len(k.l)/3*2); return k },
		func(k *known) *known { k.delete(t, len(k.l)/2, len(k.l)); return k },
		func(k *known) *known { o := k.split(t, len(k.l)/2); o.concat(t, k); return o },
		func(k *known) *known { o := k.split(t, min(32, len(k.l))); k.concat(t, o); k.concat(t, o); return k },
		func(k *known) *known { k.concat(t, k); return k },
	}
	var goOn func(k *known, left int)
	goOn = func(k *known, left int) {
		for n, step := range steps {
			o := step(k.copy(t))
			o.runes(t, fmt.Sprintf("step %d, %d left", n, left))
			if left > 0 {
				goOn(o, left-1)
			}
		}
	}
	goOn(&known{r: &Rope{}}, 3)
}

func TestLongRows(t *testing.T) {
	for first := range 8 {
		by := rule(first)
		pool := []*known{made(t, nil), {r: &Rope{}}, made(t, by.list(50)), made(t, by.list(300))}
		for step := range 3000 {
			k := pool[by.next(len(pool))]
			k.step(t, &by, pool)
			for _, p := range pool {
				p.runes(t, fmt.Sprintf("row %d, step %d", first, step))
			}
			if step%500 == 0 {
				for _, p := range pool {
					p.check(t, fmt.Sprintf("row %d, step %d", first, step))
				}
			}
		}
	}
}

// step does something to the rope, or to one of the pool.
func (k *known) step(t *testing.T, by *rule, pool []*known) {
	t.Helper()
	i := by.next(len(k.l)+3) - 1
	which := by.next(len(pool))
	switch by.next(10) {
	case 0:
		if o := k.split(t, i); o != nil {
			pool[which] = o
		}
	case 1:
		if len(k.l)+len(pool[which].l) < 2000 {
			k.concat(t, pool[which])
		}
	case 2:
		pool[which] = k.copy(t)
	case 3:
		k.delete(t, i, i+by.next(len(k.l)/2+40))
	case 4:
		k.insert(t, i, by.list(by.next(100)))
	case 5:
		l := by.list(1 + by.next(40))
		l[by.next(len(l))] = wrongs()[by.next(len(wrongs()))]
		k.insert(t, i, l)
	case 6:
		k.delete(t, i, i+by.next(3)-1)
	default:
		k.insert(t, i, by.list(by.next(3)))
	}
}
