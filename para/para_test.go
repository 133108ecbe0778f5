package para

import (
	"fmt"
	"math"
	"math/bits"
	"slices"
	"strings"
	"testing"

	"rubric/api"
)

// The signatures are the chapter's.
var (
	_ func() *Para                                    = New
	_ func(*Para) int                                 = (*Para).Len
	_ func(*Para, int) ([]api.Attr, api.Errno)        = (*Para).At
	_ func(*Para, int, [][]api.Attr) api.Errno        = (*Para).Insert
	_ func(*Para, int, int) api.Errno                 = (*Para).Delete
	_ func(*Para, int, int, []api.Change) api.Errno   = (*Para).Patch
	_ func(*Para, int, int) ([][]api.Attr, api.Errno) = (*Para).Over
	_ func(*Para) int                                 = (*Para).Height
	_ func(*Para) *Para                               = (*Para).Copy
)

// The model: the chapter's words, said of a plain list of sets.

const most = 1 << 29

type (
	set     = []api.Attr
	list    = [][]api.Attr
	changes = []api.Change
)

// same takes no set that is nil for another one than an empty one.
func same(a, b set) bool {
	if len(a) != len(b) {
		return false
	}
	for i := range a {
		v, w := a[i].Value, b[i].Value
		if a[i].Key != b[i].Key || v.Kind != w.Kind || v.N != w.N || v.F != w.F || v.S != w.S {
			return false
		}
	}
	return true
}

func sameList(a, b list) bool {
	return slices.EqualFunc(a, b, same)
}

// wantPatched answers the set without the keys that are gone, and with the values of all others, by rising keys.
func wantPatched(s set, x changes) set {
	all := map[int]api.Value{}
	for _, a := range s {
		all[a.Key] = a.Value
	}
	for _, c := range x {
		if delete(all, c.Key); !c.Gone {
			all[c.Key] = c.Value
		}
	}
	var patched set
	for key, v := range all {
		patched = append(patched, api.Attr{Key: key, Value: v})
	}
	slices.SortFunc(patched, func(a, b api.Attr) int {
		if a.Key < b.Key {
			return -1
		}
		return 1
	})
	return patched
}

// wantReach answers what is told of places k and m of n records.
func wantReach(n, k, m int) api.Errno {
	if 0 <= k && k <= m && m <= n {
		return 0
	}
	return 5
}

// Sets, patches and places that the tests go over.

func num(n int64) api.Value       { return api.Value{Kind: 2, N: n} }
func text(s string) api.Value     { return api.Value{Kind: 4, S: s} }
func float(bits uint64) api.Value { return api.Value{Kind: 3, F: bits} }

func attr(key int, v api.Value) api.Attr {
	return api.Attr{Key: key, Value: v}
}

// of answers a set of whole numbers, of each the key, and which.
func of(pairs ...int) set {
	var s set
	for i := 0; i+1 < len(pairs); i += 2 {
		s = append(s, attr(pairs[i], num(int64(pairs[i+1]))))
	}
	return s
}

// to answers a patch by which keys have whole numbers.
func to(pairs ...int) changes {
	var x changes
	for _, a := range of(pairs...) {
		x = append(x, api.Change{Key: a.Key, Value: a.Value})
	}
	return x
}

// without answers a patch by which keys are gone.
func without(keys ...int) changes {
	var x changes
	for _, key := range keys {
		x = append(x, api.Change{Key: key, Gone: true})
	}
	return x
}

// both answers two patches as one, by rising keys.
func both(x, y changes) changes {
	all := slices.Concat(x, y)
	slices.SortFunc(all, func(a, b api.Change) int { return a.Key - b.Key })
	return all
}

// manyAttrs is a set of more attributes than a schema's may have.
func manyAttrs(n int) set {
	var s set
	for key := range n {
		s = append(s, attr(3*key-50, num(int64(key))))
	}
	return s
}

// sets are such of which no two are alike, many of them but for one thing; which keys and values there may be is not asked.
func sets() list {
	return list{
		nil,
		of(14, 1), of(14, 2), of(14, 0), of(14, -1), of(13, 1), of(15, 1), of(13, 1, 14, 1), of(14, 1, 15, 1), of(13, 1, 15, 1), of(13, 1, 14, 1, 15, 1), of(13, 1, 14, 2, 15, 1),
		{attr(14, api.Value{Kind: 1, N: 1})}, {attr(14, api.Value{Kind: 1})},
		{attr(14, text("1"))}, {attr(14, text(""))}, {attr(14, text("\x00"))}, {attr(14, text("a"))}, {attr(14, text("ab"))}, {attr(14, text(strings.Repeat("ab", 500)))}, {attr(14, text("\xff"))},
		{attr(14, float(0))}, {attr(14, float(1))}, {attr(14, float(math.Float64bits(math.Copysign(0, -1))))}, {attr(14, float(api.NaN))}, {attr(14, float(api.NaN+1))}, {attr(14, float(math.MaxUint64))},
		{attr(14, api.Value{})}, {attr(0, api.Value{})}, {attr(-14, num(1))}, {attr(14, api.Value{Kind: 255, N: 1, F: 1, S: "1"})},
		of(math.MinInt, 1, 0, 1, math.MaxInt, 1), of(14, math.MaxInt), of(14, math.MinInt), of(14, 1<<32), of(14+1<<32, 1),
		manyAttrs(64), manyAttrs(65), manyAttrs(300),
	}
}

// patches are such that set, that take out, that do both, and that do nothing.
func patches() []changes {
	all := changes{}
	for _, a := range manyAttrs(90) {
		all = append(all, api.Change{Key: a.Key, Gone: a.Key%2 == 0, Value: num(0)})
		if all[len(all)-1].Gone {
			all[len(all)-1].Value = api.Value{}
		}
	}
	return []changes{
		nil, {}, all,
		to(14, 1), to(14, 2), to(13, 1), to(15, 1), to(13, 1, 14, 1), to(13, 1, 14, 1, 15, 1), to(1, 1, 99, 1), to(math.MinInt, 5, math.MaxInt, 5),
		without(14), without(13), without(15), without(13, 14, 15), without(1, 99), without(-14, 0, 14), without(math.MinInt, math.MaxInt),
		both(to(13, 7), without(14)), both(without(13), to(14, 7)), both(without(1, 13, 15), to(2, 4, 14, 1)), both(without(14), to(15, 1)),
		{{Key: 14, Value: text("a")}}, {{Key: 14, Value: float(1 << 63)}}, {{Key: 14, Value: api.Value{Kind: 1, N: 1}}}, {{Key: 14}}, {{Key: 14, Value: api.Value{Kind: 200, N: 1, F: 2, S: "3"}}},
	}
}

// ends are numbers of no place, and some about those that are.
func ends() []int {
	return []int{math.MinInt, math.MinInt + 1, math.MinInt32 - 1, math.MinInt32, -1 << 29, -257, -256, -2, -1,
		255, 256, 257, 1<<29 - 1, 1 << 29, 1<<29 + 1, math.MaxInt32, math.MaxInt32 + 1, 1 << 32, 1<<32 + 1, 1 << 62, math.MaxInt - 1, math.MaxInt}
}

// places are those numbers, and all about a list of n.
func places(n int) []int {
	at := ends()
	for i := -3; i <= n+3; i++ {
		at = append(at, i)
	}
	return at
}

// few are some of those places.
func few(n int) []int {
	return []int{math.MinInt, -1, 0, 1, 2, n / 3, n / 2, n - 2, n - 1, n, n + 1, math.MaxInt}
}

// rule is a row of numbers that looks like chance and is the same at each run.
type rule uint64

func (r *rule) next(n int) int {
	*r = *r*6364136223846793005 + 1442695040888963407
	return int(uint64(*r) >> 33 % uint64(n))
}

// by answers the row that begins with n.
func by(n int) *rule {
	r := rule(n)
	return &r
}

// set answers one of some few sets, so that many are alike.
func (r *rule) set() set {
	return []set{nil, {}, of(14, 1), of(14, 2), of(13, 1, 14, 1), of(13, 1)}[r.next(6)]
}

// list answers n sets, many of which are like the one ahead of them.
func (r *rule) list(n int) list {
	l := make(list, n)
	for i := range l {
		if l[i] = r.set(); i > 0 && r.next(3) > 0 {
			l[i] = l[i-1]
		}
	}
	return l
}

// patch answers a patch of the keys that those sets have, and of others.
func (r *rule) patch() changes {
	var x changes
	for key := 12; key < 16; key++ {
		switch r.next(4) {
		case 0:
			x = append(x, api.Change{Key: key, Gone: true})
		case 1:
			x = append(x, api.Change{Key: key, Value: num(int64(r.next(3)))})
		}
	}
	return x
}

// rising are n sets, no two alike.
func rising(n int) list {
	l := make(list, n)
	for i := range l {
		l[i] = of(14, i)
	}
	return l
}

func alike(s set, n int) list {
	return slices.Repeat(list{s}, n)
}

// lists are of n sets: all empty, all alike, no two alike, by turns, of runs of all lengths, of a long run with another one at either end, and by a rule.
func lists(n int) []list {
	r := rule(n)
	turns, growing, middle, empty := make(list, n), make(list, n), alike(of(14, 1), n), make(list, n)
	for i := range n {
		turns[i] = of(14, i%2)
		growing[i] = of(14, bits.Len(uint(i)))
		if i%2 == 0 {
			empty[i] = set{}
		}
	}
	if n > 0 {
		middle[0], middle[n-1] = nil, nil
	}
	return []list{empty, alike(of(13, 1, 14, 2), n), rising(n), turns, growing, middle, r.list(n), r.list(n)}
}

// Memory that is handed in and told.

var mark = api.Attr{Key: 77, Value: api.Value{Kind: 4, N: 7, F: 7, S: "written over"}}

// roomy answers the set with room behind it, in which something stands.
func roomy(s set) set {
	if s == nil {
		return nil
	}
	return append(slices.Clone(s), mark, mark)[:len(s)]
}

// handed answers the list with room behind it and behind each set.
func handed(l list) list {
	if l == nil {
		return nil
	}
	var in list
	for _, s := range l {
		in = append(in, roomy(s))
	}
	return append(in, set{mark}, set{mark})[:len(l)]
}

// whole answers all that stands in a list's memory.
func whole[T any](l []T) []T {
	return l[:cap(l)]
}

// untouched answers whether a list that was handed in is as it was, with what stands behind.
func untouched(in, l list) bool {
	if in == nil {
		return l == nil
	}
	if !sameList(in, l) || !sameList(in[:len(l)+2][len(l):], list{{mark}, {mark}}) {
		return false
	}
	for i, s := range in {
		if s != nil && !same(s[:len(s)+2][len(s):], set{mark, mark}) || (s == nil) != (l[i] == nil) {
			return false
		}
	}
	return true
}

// scribble writes over all memory of a set.
func scribble(s set) {
	for i := range whole(s) {
		whole(s)[i] = mark
	}
}

// scribbleAll writes over all memory of a list.
func scribbleAll(l list) {
	for _, s := range l {
		scribble(s)
	}
	for i := range whole(l) {
		whole(l)[i] = set{mark, mark}
	}
}

// Records, with the list that they stand for.

type known struct {
	p *Para
	l list
}

func made(t *testing.T, l list) *known {
	t.Helper()
	k := &known{p: New()}
	k.insert(t, 0, l)
	return k
}

// insert hands in memory that is written over when the call has come back.
func (k *known) insert(t *testing.T, at int, l list) api.Errno {
	t.Helper()
	in := handed(l)
	e := k.p.Insert(at, in)
	if !untouched(in, l) {
		t.Fatalf("Insert wrote to what it was handed in: %v, and it was %v", in, l)
	}
	scribbleAll(in)
	want := wantReach(len(k.l), at, at)
	if e != want {
		t.Fatalf("of %d: Insert(%d, %v) %d, want %d", len(k.l), at, l, e, want)
	}
	if e == 0 {
		k.l = slices.Concat(k.l[:at], l, k.l[at:])
	}
	return e
}

func (k *known) delete(t *testing.T, at, end int) api.Errno {
	t.Helper()
	e, want := k.p.Delete(at, end), wantReach(len(k.l), at, end)
	if e != want {
		t.Fatalf("of %d: Delete(%d, %d) %d, want %d", len(k.l), at, end, e, want)
	}
	if e == 0 {
		k.l = slices.Concat(k.l[:at], k.l[end:])
	}
	return e
}

// patch hands in memory that is written over when the call has come back.
func (k *known) patch(t *testing.T, at, end int, x changes) api.Errno {
	t.Helper()
	behind := api.Change{Key: mark.Key, Value: mark.Value}
	in := append(slices.Clone(x), behind, behind)
	was := slices.Clone(in)
	e := k.p.Patch(at, end, in[:len(x)])
	if !slices.Equal(in, was) {
		t.Fatalf("Patch wrote to what it was handed in: %v, and it was %v", in, was)
	}
	for i := range whole(in) {
		whole(in)[i] = behind
	}
	want := wantReach(len(k.l), at, end)
	if e != want {
		t.Fatalf("of %d: Patch(%d, %d, %v) %d, want %d", len(k.l), at, end, x, e, want)
	}
	if e == 0 {
		var part list
		for _, s := range k.l[at:end] {
			part = append(part, wantPatched(s, x))
		}
		k.l = slices.Concat(k.l[:at], part, k.l[end:])
	}
	return e
}

func (k *known) copy(t *testing.T) *known {
	t.Helper()
	p := k.p.Copy()
	if p == nil || p == k.p {
		t.Fatalf("of %d: Copy %v", len(k.l), p)
	}
	return &known{p, slices.Clone(k.l)}
}

// at writes over what it was told.
func (k *known) at(t *testing.T, what string, i int) {
	t.Helper()
	var want set
	wantE := api.Errno(5)
	if 0 <= i && i < len(k.l) {
		want, wantE = k.l[i], 0
	}
	got, e := k.p.At(i)
	if !same(got, want) || e != wantE {
		t.Fatalf("%s, of %d: At(%d) %v, %d, want %v, %d", what, len(k.l), i, got, e, want, wantE)
	}
	scribble(got)
}

// over writes over what it was told.
func (k *known) over(t *testing.T, what string, i, j int) {
	t.Helper()
	var want list
	wantE := wantReach(len(k.l), i, j)
	if wantE == 0 {
		want = k.l[i:j]
	}
	got, e := k.p.Over(i, j)
	if !sameList(got, want) || e != wantE {
		t.Fatalf("%s, of %d: Over(%d, %d) %v, %d, want %v, %d", what, len(k.l), i, j, got, e, want, wantE)
	}
	scribbleAll(got)
}

// records asks how many there are, and which, and how high the tree is.
func (k *known) records(t *testing.T, what string) {
	t.Helper()
	if n := k.p.Len(); n != len(k.l) {
		t.Fatalf("%s: Len %d, want %d", what, n, len(k.l))
	}
	k.over(t, what, 0, len(k.l))
	checkHeight(t, what, k.p)
}

// checkHeight holds the height against how many records there are.
func checkHeight(t *testing.T, what string, p *Para) {
	t.Helper()
	h, digits := p.Height(), bits.Len(uint(p.Len()))
	if h > 2*digits || h < 0 || (h == 0) != (p.Len() == 0) {
		t.Fatalf("%s: Height %d of %d records, at most %d", what, h, p.Len(), 2*digits)
	}
}

// check asks the records all that can be read of them.
func (k *known) check(t *testing.T, what string) {
	t.Helper()
	k.records(t, what)
	for _, i := range places(len(k.l)) {
		k.at(t, what, i)
	}
	for _, i := range few(len(k.l)) {
		for _, j := range few(len(k.l)) {
			k.over(t, what, i, j)
		}
	}
	k.records(t, what+", after what was told was written over")
}

// blanks are such without records, however they came by it.
func blanks(t *testing.T) map[string]*known {
	t.Helper()
	all := map[string]*known{"new": {p: New()}, "zero": {p: &Para{}}}
	all["copy of a new one"] = all["new"].copy(t)
	all["copy of a zero one"] = all["zero"].copy(t)
	all["emptied"] = made(t, rising(50))
	all["emptied"].delete(t, 0, 50)
	all["emptied of records alike"] = made(t, alike(of(14, 1), 50))
	all["emptied of records alike"].delete(t, 0, 50)
	all["emptied of empty sets"] = made(t, make(list, 50))
	all["emptied of empty sets"].delete(t, 0, 50)
	all["emptied bit by bit"] = made(t, rising(9))
	for range 9 {
		all["emptied bit by bit"].delete(t, 0, 1)
	}
	all["zero, with none put in"] = &known{p: &Para{}}
	all["zero, with none put in"].insert(t, 0, nil)
	all["zero, with an empty list put in"] = &known{p: &Para{}}
	all["zero, with an empty list put in"].insert(t, 0, list{})
	all["zero, with nothing deleted"] = &known{p: &Para{}}
	all["zero, with nothing deleted"].delete(t, 0, 0)
	all["zero, with nothing patched"] = &known{p: &Para{}}
	all["zero, with nothing patched"].patch(t, 0, 0, to(14, 1))
	return all
}

// The chapter's examples, and the document's numbers.

func TestExamples(t *testing.T) {
	p := New()
	if e := p.Insert(0, list{nil, of(14, 1)}); e != api.OK {
		t.Fatalf("Insert %d", e)
	}
	if e := p.Patch(0, 2, to(14, 2)); e != api.OK {
		t.Fatalf("Patch %d", e)
	}
	if s, e := p.At(0); !same(s, of(14, 2)) || e != api.OK {
		t.Errorf("At(0) %v, %d", s, e)
	}
	if s, e := p.At(1); !same(s, of(14, 2)) || e != api.OK {
		t.Errorf("At(1) %v, %d", s, e)
	}
	if s, e := p.At(2); len(s) != 0 || e != api.ErrRange {
		t.Errorf("At(2) %v, %d", s, e)
	}
}

func TestLimitsAndErrorsAreThoseOfTheDocument(t *testing.T) {
	if api.MaxLen != most {
		t.Fatalf("MaxLen %d", api.MaxLen)
	}
	if api.OK != 0 || api.ErrNil != 1 || api.ErrRange != 5 || api.ErrTooLong != 8 {
		t.Fatalf("errors %d, %d, %d, %d", api.OK, api.ErrNil, api.ErrRange, api.ErrTooLong)
	}
}

// P13.1

func TestBlankOnes(t *testing.T) {
	for what, k := range blanks(t) {
		k.check(t, what)
		if k.p.Len() != 0 || k.p.Height() != 0 {
			t.Fatalf("%s: %d, %d", what, k.p.Len(), k.p.Height())
		}
	}
	if a, b := New(), New(); a == b {
		t.Fatal("two new ones are one")
	}
}

func TestBlankOnesAreAsNewOnes(t *testing.T) {
	for what, k := range blanks(t) {
		k.insert(t, 1, list{nil})
		k.insert(t, -1, list{nil})
		k.delete(t, 0, 1)
		k.patch(t, 0, 1, to(14, 1))
		k.patch(t, 0, 0, to(14, 1))
		k.check(t, what+", after what was refused")
		k.insert(t, 0, rising(20))
		k.check(t, what+", with records put in")
		k.insert(t, 20, alike(of(14, 19), 5))
		k.patch(t, 3, 22, to(13, 1))
		k.check(t, what+", with more put in")
	}
}

func TestNewOnesGoTheirOwnWays(t *testing.T) {
	a, b := made(t, list{nil, of(14, 1)}), made(t, nil)
	b.check(t, "beside another one")
	b.insert(t, 0, list{of(13, 1), nil, nil})
	b.patch(t, 0, 3, to(14, 5))
	a.check(t, "beside another one")
	b.check(t, "beside another one")
	a.delete(t, 0, 2)
	b.check(t, "beside one that was emptied")
}

func TestAllLengths(t *testing.T) {
	for n := range 70 {
		for _, l := range lists(n) {
			made(t, l).check(t, "put in at once")
		}
	}
	for _, n := range []int{127, 128, 129, 1023, 1024, 1025} {
		for _, l := range lists(n) {
			made(t, l).check(t, "put in at once")
		}
	}
}

// What a record's attributes are is not asked, and such as are alike but for one thing are two.
func TestAllSets(t *testing.T) {
	all := sets()
	made(t, all).check(t, "all sets")
	for i, s := range all {
		made(t, list{s}).check(t, "one set")
		made(t, alike(s, 3)).check(t, "one set thrice")
		for j, o := range all {
			if (i == j) != same(s, o) {
				t.Fatalf("the sets %d and %d of the test", i, j)
			}
			k := made(t, list{s, o, s, s})
			k.records(t, "two sets")
			k.insert(t, 1, list{o, s})
			k.insert(t, 0, list{o})
			k.delete(t, 2, 3)
			k.records(t, "two sets")
		}
	}
}

func TestEmptyAndMissingSetsAreTheSame(t *testing.T) {
	for _, l := range []list{{nil}, {{}}, {nil, {}}, {{}, nil}, {of(14, 1), nil, {}, nil}, {of(14, 1)[:0], of(14, 1)}} {
		k := made(t, l)
		k.check(t, "empty sets")
		k.patch(t, 0, len(l), without(14))
		k.check(t, "empty sets, and one that got so")
		for i := range l {
			if s, e := k.p.At(i); len(s) != 0 || e != 0 {
				t.Fatalf("At(%d) %v, %d", i, s, e)
			}
		}
	}
}

// Keys that do not rise are asked nothing: what is told of such records is free, but all calls come back, and all other records stay.
func TestKeysThatDoNotRise(t *testing.T) {
	wrong := list{of(14, 1, 13, 1), of(14, 1, 14, 1), of(14, 1, 14, 2, 14, 1), of(5, 1, 3, 1, 9, 1, 1, 1)}
	crooked := []changes{
		{{Key: 14, Gone: true}, {Key: 13, Gone: true}},
		{{Key: 14, Gone: true}, {Key: 14, Value: num(1)}},
		{{Key: 14, Gone: true, Value: num(5)}},
		{{Key: 9, Value: num(1)}, {Key: 3, Gone: true}, {Key: 5, Value: num(1)}},
	}
	for _, x := range append(crooked, patches()...) {
		p := New()
		if e := p.Insert(0, slices.Concat(list{of(14, 8)}, wrong, list{of(14, 9)})); e != 0 || p.Len() != 6 {
			t.Fatalf("Insert %d, Len %d", e, p.Len())
		}
		for i := range 6 {
			if e := p.Patch(i, i+1, nil); e != 0 {
				t.Fatalf("Patch %d", e)
			}
		}
		if e := p.Patch(1, 5, x); e != 0 {
			t.Fatalf("Patch %d", e)
		}
		if l, e := p.Over(0, 6); e != 0 || len(l) != 6 || !same(l[0], of(14, 8)) || !same(l[5], of(14, 9)) {
			t.Fatalf("Over %v, %d", l, e)
		}
		if e := p.Delete(2, 4); e != 0 || p.Len() != 4 {
			t.Fatalf("Delete %d, Len %d", e, p.Len())
		}
		checkHeight(t, "keys that do not rise", p)
	}
}

func TestAtTheFirstAndTheLast(t *testing.T) {
	for n := 1; n < 50; n++ {
		for _, l := range lists(n) {
			k := made(t, l)
			k.at(t, "the first", 0)
			k.at(t, "the last", n-1)
			k.at(t, "one past the last", n)
			k.over(t, "nothing at the front", 0, 0)
			k.over(t, "nothing at the end", n, n)
			k.over(t, "the front", 0, n/2)
			k.over(t, "the end", n/2, n)
			k.over(t, "the first", 0, 1)
			k.over(t, "the last", n-1, n)
		}
	}
}

func TestOverAllPlaces(t *testing.T) {
	for _, n := range []int{1, 2, 5, 23} {
		for _, l := range lists(n) {
			k := made(t, l)
			for i := -2; i <= n+2; i++ {
				for j := -2; j <= n+2; j++ {
					k.over(t, "over", i, j)
				}
			}
		}
	}
}

// P13.2

// short are lists that are changed at all places.
func short() []list {
	a, b, c := of(14, 1), of(14, 2), of(13, 1, 14, 1)
	return []list{nil, {nil}, {a}, {a, a}, {a, b}, {nil, nil, nil, nil}, {a, a, a, b, b, b}, {a, b, a, b, a}, {a, a, nil, b, b, c, c}, {c, c, b, a, a, a, b, c, c}}
}

// What was put in and is deleted again leaves what was there.
func TestInsertAtAllPlaces(t *testing.T) {
	a, b, c := of(14, 1), of(14, 2), of(13, 1, 14, 1)
	for _, l := range short() {
		whole := made(t, l)
		for i := -2; i <= len(l)+2; i++ {
			for _, in := range append(short(), list{}, list{{}}, list{{}, nil, a}, list{c, c}, list{b, a}, rising(40), alike(a, 40)) {
				k := whole.copy(t)
				if k.insert(t, i, in) != 0 {
					k.records(t, "refused")
					continue
				}
				what := fmt.Sprintf("Insert(%d, %v)", i, in)
				k.check(t, what)
				k.delete(t, i, i+len(in))
				k.check(t, what+", and deleted again")
				if !sameList(k.l, l) {
					t.Fatalf("%s of %v, and deleted again: %v", what, l, k.l)
				}
			}
		}
		whole.check(t, "copied from")
	}
}

func TestInsertTellsTheOrder(t *testing.T) {
	p := New()
	for _, c := range []struct {
		k    int
		in   list
		want list
	}{
		{0, rising(3), list{of(14, 0), of(14, 1), of(14, 2)}},
		{0, list{of(13, 1), of(13, 2)}, list{of(13, 1), of(13, 2), of(14, 0), of(14, 1), of(14, 2)}},
		{5, list{nil, of(13, 3)}, list{of(13, 1), of(13, 2), of(14, 0), of(14, 1), of(14, 2), nil, of(13, 3)}},
		{1, list{of(14, 0), of(14, 9)}, list{of(13, 1), of(14, 0), of(14, 9), of(13, 2), of(14, 0), of(14, 1), of(14, 2), nil, of(13, 3)}},
		{4, nil, list{of(13, 1), of(14, 0), of(14, 9), of(13, 2), of(14, 0), of(14, 1), of(14, 2), nil, of(13, 3)}},
	} {
		if e := p.Insert(c.k, c.in); e != 0 {
			t.Fatalf("Insert(%d) %d", c.k, e)
		}
		if l, e := p.Over(0, p.Len()); !sameList(l, c.want) || e != 0 {
			t.Fatalf("Insert(%d, %v) makes %v, want %v", c.k, c.in, l, c.want)
		}
	}
}

func TestDeleteAtAllPlaces(t *testing.T) {
	for _, l := range append(short(), rising(12), by(3).list(14)) {
		whole := made(t, l)
		for i := -2; i <= len(l)+2; i++ {
			for j := -2; j <= len(l)+2; j++ {
				k := whole.copy(t)
				what := fmt.Sprintf("Delete(%d, %d)", i, j)
				if k.delete(t, i, j) == 0 {
					k.check(t, what)
					k.insert(t, i, l[i:j])
				}
				k.records(t, what+", and put in again")
				if !sameList(k.l, l) {
					t.Fatalf("%s of %v, and put in again: %v", what, l, k.l)
				}
			}
		}
		whole.check(t, "copied from")
	}
}

func TestPatchAtAllPlaces(t *testing.T) {
	for _, l := range append(short(), by(5).list(12)) {
		whole := made(t, l)
		for i := -2; i <= len(l)+2; i++ {
			for j := -2; j <= len(l)+2; j++ {
				for _, x := range patches() {
					k := whole.copy(t)
					k.patch(t, i, j, x)
					k.records(t, fmt.Sprintf("Patch(%d, %d, %v)", i, j, x))
				}
			}
		}
		whole.check(t, "copied from")
	}
}

func TestPatchOfAllSets(t *testing.T) {
	all := sets()
	for _, x := range patches() {
		k := made(t, all)
		k.patch(t, 0, len(all), x)
		k.check(t, fmt.Sprintf("all sets, patched by %v", x))
		for i, s := range all {
			one := made(t, list{s})
			one.patch(t, 0, 1, x)
			one.records(t, "one set, patched")
			one.patch(t, 0, 1, x)
			one.records(t, "one set, patched twice")
			k.at(t, "patched", i)
		}
		for _, y := range patches() {
			k.patch(t, 1, len(all)-1, y)
			k.records(t, "all sets, patched once more")
		}
	}
}

// A patch of some records changes no other one, and what it leaves is told one by one.
func TestPatchOfSome(t *testing.T) {
	a, b := of(14, 1), of(14, 2)
	for _, c := range []struct {
		what string
		l    list
		k, m int
		x    changes
		want list
	}{
		{"nothing", list{a, a, a}, 1, 1, to(14, 2), list{a, a, a}},
		{"nothing at the end", list{a, a, a}, 3, 3, to(14, 2), list{a, a, a}},
		{"nothing of nothing", nil, 0, 0, to(14, 2), nil},
		{"the first of such as are alike", list{a, a, a}, 0, 1, to(14, 2), list{b, a, a}},
		{"the midst of such as are alike", list{a, a, a}, 1, 2, to(14, 2), list{a, b, a}},
		{"the last of such as are alike", list{a, a, a}, 2, 3, to(14, 2), list{a, a, b}},
		{"all of such as are alike", list{a, a, a}, 0, 3, to(14, 2), list{b, b, b}},
		{"to what the neighbour ahead is", list{a, b, a}, 1, 2, to(14, 1), list{a, a, a}},
		{"by an empty one", list{a, b, nil}, 0, 3, nil, list{a, b, nil}},
		{"such as have it already", list{b, b}, 0, 2, to(14, 2), list{b, b}},
		{"such as have the key and such as have not", list{nil, a, of(13, 5)}, 0, 3, to(14, 2), list{b, b, of(13, 5, 14, 2)}},
		{"a key gone", list{nil, a, of(13, 5, 14, 1)}, 0, 3, without(14), list{nil, nil, of(13, 5)}},
		{"a key gone that none has", list{nil, a, of(13, 5)}, 0, 3, without(15), list{nil, a, of(13, 5)}},
		{"one set and one gone", list{nil, a, of(13, 5)}, 0, 3, both(without(13), to(14, 2)), list{b, b, b}},
		{"one gone and one set", list{nil, a, of(13, 5)}, 1, 3, both(to(13, 6), without(14)), list{nil, of(13, 6), of(13, 6)}},
		{"another kind", list{a}, 0, 1, changes{{Key: 14, Value: text("1")}}, list{{attr(14, text("1"))}}},
	} {
		k := made(t, c.l)
		k.patch(t, c.k, c.m, c.x)
		if l, e := k.p.Over(0, len(c.l)); !sameList(l, c.want) || e != 0 {
			t.Fatalf("%s: Patch(%d, %d, %v) of %v makes %v, want %v", c.what, c.k, c.m, c.x, c.l, l, c.want)
		}
		k.check(t, c.what)
	}
}

func TestPatchLongRows(t *testing.T) {
	for _, n := range []int{30, 65, 200} {
		for _, l := range lists(n) {
			whole := made(t, l)
			for _, i := range few(n) {
				for _, j := range few(n) {
					for _, x := range []changes{nil, to(14, 1), without(14), both(to(13, 1), without(14))} {
						k := whole.copy(t)
						k.patch(t, i, j, x)
						k.records(t, fmt.Sprintf("Patch(%d, %d, %v)", i, j, x))
					}
				}
			}
		}
	}
}

// Records that are put in together, or patched together, are each their own.
func TestRecordsAreEachTheirOwn(t *testing.T) {
	for n := 1; n < 40; n++ {
		s := of(14, 1)
		for what, l := range map[string]list{"empty": make(list, n), "alike": alike(s, n), "of one memory": alike(s, n)} {
			k := made(t, l)
			if what == "of one memory" {
				k = &known{p: New(), l: alike(of(14, 1), n)}
				k.p.Insert(0, l)
				scribble(s)
			}
			for i := range n {
				k.patch(t, i, i+1, to(13, i%5))
				k.records(t, what+", one patched")
			}
			k.patch(t, 0, n, both(without(13), to(15, 1)))
			k.records(t, what+", all patched")
			k.patch(t, n/2, n/2+1, to(15, 2))
			k.check(t, what+", one patched of such as were patched together")
		}
	}
}

// A patch is not kept: what was made of it stays when it is written over.
func TestPatchIsNotKept(t *testing.T) {
	for _, n := range []int{1, 2, 9} {
		for _, l := range lists(n) {
			p, q := New(), New()
			p.Insert(0, l)
			q.Insert(0, l)
			x := both(to(13, 3, 14, 4), without(15))
			p.Patch(0, n, x)
			q.Patch(0, n, slices.Clone(x))
			for i := range x {
				x[i] = api.Change{Key: 77, Value: text("written over")}
			}
			got, _ := p.Over(0, n)
			if want, _ := q.Over(0, n); !sameList(got, want) {
				t.Fatalf("%v, want %v", got, want)
			}
		}
	}
}

// What is told shares no memory with a record, nor with what else is told.
func TestToldIsItsOwn(t *testing.T) {
	for n := 1; n < 20; n++ {
		for _, l := range append(lists(n), slices.Repeat(list{manyAttrs(70)}, n)) {
			k := made(t, l)
			k.patch(t, 0, n/2, to(14, 3))
			for i := range n {
				told, _ := k.p.Over(0, n)
				again, _ := k.p.Over(0, n)
				one, _ := k.p.At(i)
				scribble(told[i])
				told[i] = append(told[i], mark, mark, mark)
				told[i] = set{mark}
				for j := range n {
					if j != i && !same(told[j], k.l[j]) {
						t.Fatalf("record %d, written over, and %d is %v, and was %v", i, j, told[j], k.l[j])
					}
				}
				if !same(one, k.l[i]) || !sameList(again, k.l) {
					t.Fatalf("record %d, written over, and another answer is %v, and %v", i, one, again)
				}
				scribble(one)
				if !sameList(again, k.l) {
					t.Fatalf("record %d, written over, and another answer is %v", i, again)
				}
				told = append(told[:n-1], set{mark}, set{mark})
				scribbleAll(told)
			}
			k.check(t, "what was told was written over")
		}
	}
}

// What one tells may be handed in to it, and to another one.
func TestToldIsHandedIn(t *testing.T) {
	k, o := made(t, by(1).list(30)), made(t, nil)
	for i := range 30 {
		told, _ := k.p.Over(i/2, i)
		if e := k.p.Insert(i, told); e != 0 {
			t.Fatalf("Insert %d", e)
		}
		if e := o.p.Insert(0, told); e != 0 {
			t.Fatalf("Insert %d", e)
		}
		part := slices.Clone(k.l[i/2 : i])
		k.l, o.l = slices.Concat(k.l[:i], part, k.l[i:]), slices.Concat(part, o.l)
		scribbleAll(told)
		k.check(t, "handed in to itself")
		o.check(t, "handed in to another one")
		o.patch(t, 0, len(part)/2, to(14, 9))
		k.records(t, "another one patched")
	}
}

// As many as may be, and one more. Records that are alike are put in by many at a time.
func TestAsManyAsMayBe(t *testing.T) {
	many := make(list, 1<<20)
	p := New()
	for n := 0; n < most; n += len(many) {
		if e := p.Insert([]int{0, n, n / 2}[n>>20%3], many); e != 0 || p.Len() != n+len(many) {
			t.Fatalf("Insert of %d to %d: %d, Len %d", len(many), n, e, p.Len())
		}
	}
	refused := func(k int, l list, want api.Errno) {
		t.Helper()
		n := p.Len()
		if e := p.Insert(k, l); e != want || p.Len() != n {
			t.Fatalf("of %d: Insert(%d) of %d: %d, want %d, Len %d", n, k, len(l), e, want, p.Len())
		}
	}
	one, two := list{of(14, 1)}, list{of(14, 1), of(14, 2)}
	for _, k := range []int{0, 1, most / 2, most - 1, most} {
		refused(k, one, 8)
		refused(k, two, 8)
		refused(k, many, 8)
		refused(k, nil, 0)
		refused(k, list{}, 0)
	}
	for _, k := range []int{-1, most + 1, math.MinInt, math.MaxInt} {
		refused(k, one, 5)
		refused(k, many, 5)
		refused(k, nil, 5)
	}
	checkHeight(t, "as many as may be", p)
	whole := p.Copy()
	for _, step := range []struct {
		what string
		do   func() api.Errno
		want api.Errno
		n    int
	}{
		{"one gone", func() api.Errno { return p.Delete(7, 8) }, 0, most - 1},
		{"two put in", func() api.Errno { return p.Insert(9, two) }, 8, most - 1},
		{"one put in", func() api.Errno { return p.Insert(9, one) }, 0, most},
		{"one more", func() api.Errno { return p.Insert(9, one) }, 8, most},
		{"two gone", func() api.Errno { return p.Delete(most-2, most) }, 0, most - 2},
	} {
		if e := step.do(); e != step.want || p.Len() != step.n {
			t.Fatalf("%s: %d, want %d, Len %d, want %d", step.what, e, step.want, p.Len(), step.n)
		}
	}
	refused(0, append(two, nil), 8)
	refused(most-2, many, 8)
	refused(most, one, 5)
	if e := p.Insert(most-2, two); e != 0 || p.Len() != most {
		t.Fatalf("two put in: %d, Len %d", e, p.Len())
	}
	if e := p.Patch(1, most-1, to(13, 1)); e != 0 {
		t.Fatalf("Patch %d", e)
	}
	for k, want := range map[int]set{0: nil, 1: of(13, 1), 8: of(13, 1), 9: of(13, 1, 14, 1), 10: of(13, 1), most - 2: of(13, 1, 14, 1), most - 1: of(14, 2)} {
		if s, e := p.At(k); !same(s, want) || e != 0 {
			t.Fatalf("At(%d) %v, %d, want %v", k, s, e, want)
		}
		if s, e := whole.At(k); len(s) != 0 || e != 0 {
			t.Fatalf("the copy: At(%d) %v, %d", k, s, e)
		}
	}
	if s, e := p.At(most); len(s) != 0 || e != 5 {
		t.Fatalf("At(%d) %v, %d", most, s, e)
	}
	if l, e := p.Over(most-3, most); !sameList(l, list{of(13, 1), of(13, 1, 14, 1), of(14, 2)}) || e != 0 {
		t.Fatalf("Over the end %v, %d", l, e)
	}
	if e := p.Delete(0, most); e != 0 || p.Len() != 0 || p.Height() != 0 || whole.Len() != most {
		t.Fatalf("Delete %d, Len %d, Height %d", e, p.Len(), p.Height())
	}
}

// P13.3

// Copies go their own way, and so do copies of copies.
func TestCopies(t *testing.T) {
	r := rule(9)
	for _, n := range []int{0, 1, 5, 40, 200} {
		k := made(t, r.list(n))
		all := []*known{k, k.copy(t), k.copy(t)}
		all = append(all, all[1].copy(t))
		for step := range 150 {
			p := all[step%len(all)]
			i := r.next(len(p.l) + 1)
			j := i + r.next(min(8, len(p.l)-i+1))
			switch step / 4 % 3 {
			case 0:
				p.patch(t, i, j, r.patch())
			case 1:
				p.insert(t, i, r.list(r.next(6)))
			case 2:
				p.delete(t, i, j)
			}
			for _, q := range all {
				q.records(t, "gone its own way")
			}
		}
		for _, p := range all {
			p.delete(t, 0, len(p.l))
			for _, q := range all {
				q.records(t, "another one emptied")
			}
		}
	}
}

func TestCopyIsAsHigh(t *testing.T) {
	for n := range 100 {
		k := made(t, rising(n))
		if a, b := k.p.Height(), k.p.Copy().Height(); a != b {
			t.Fatalf("of %d: Height %d, the copy's %d", n, a, b)
		}
	}
}

func TestHeightOfFew(t *testing.T) {
	for n := range 300 {
		for _, l := range lists(n) {
			k := made(t, l)
			checkHeight(t, "few", k.p)
			if h := k.p.Height(); n == 1 && h != 1 && h != 2 {
				t.Fatalf("Height %d of one record", h)
			}
		}
	}
}

// Records side by side that are alike take the room of one, however they came to stand there.
func TestRecordsAlikeStandTogether(t *testing.T) {
	one := func(k *known, what string) {
		t.Helper()
		k.check(t, what)
		if h := k.p.Height(); h != 1 {
			t.Fatalf("%s: Height %d of %d records alike", what, h, len(k.l))
		}
	}
	k := made(t, alike(of(14, 1), 9))
	one(k, "at once")
	for n := range 60 {
		k.insert(t, n*7919%len(k.l), alike(of(14, 1), n%3))
		one(k, "one by one")
	}
	k.insert(t, 5, list{of(14, 2), nil})
	k.delete(t, 5, 7)
	one(k, "what stood between gone")
	k.insert(t, 5, rising(20))
	k.patch(t, 0, len(k.l), to(14, 1))
	one(k, "patched to be alike")
	k.patch(t, 0, 30, to(13, 1))
	k.patch(t, 30, len(k.l), to(13, 1))
	one(k, "patched part by part")
	k = k.copy(t)
	one(k, "copied")
}

func TestOneByOne(t *testing.T) {
	r := rule(4)
	for what, place := range map[string]func(n int) int{
		"at the front":     func(n int) int { return 0 },
		"behind":           func(n int) int { return n },
		"ahead of the end": func(n int) int { return max(0, n-1) },
		"behind the first": func(n int) int { return min(1, n) },
		"in the midst":     func(n int) int { return n / 2 },
		"at one place":     func(n int) int { return min(40, n) },
		"here and there":   func(n int) int { return n * 7919 % (n + 1) },
		"by a rule":        func(n int) int { return r.next(n + 1) },
	} {
		for _, sorts := range []int{1, 2, 3, 1000} {
			k := made(t, nil)
			for n := range 200 {
				k.insert(t, place(n), list{of(14, r.next(sorts))})
				k.records(t, what)
			}
			k.check(t, what)
			for len(k.l) > 0 {
				i := min(place(len(k.l)), len(k.l)-1)
				k.delete(t, i, i+1)
				k.records(t, "taken out "+what)
			}
		}
	}
}

func TestHeightOfLongOnes(t *testing.T) {
	r := rule(11)
	p := New()
	for n := range 20000 {
		i := []int{0, p.Len(), p.Len() / 2, r.next(p.Len() + 1)}[n/5000]
		if e := p.Insert(i, list{of(14, n)}); e != api.OK {
			t.Fatalf("Insert(%d) %d", i, e)
		}
		checkHeight(t, "put in one by one", p)
	}
	c := p.Copy()
	for range 2000 {
		i := r.next(c.Len())
		if e := c.Patch(i, min(c.Len(), i+1+r.next(60)), to(14, r.next(2))); e != api.OK {
			t.Fatalf("Patch %d", e)
		}
		checkHeight(t, "made alike", c)
	}
	for p.Len() > 0 {
		i := r.next(p.Len())
		if e := p.Delete(i, min(p.Len(), i+1+r.next(9))); e != api.OK {
			t.Fatalf("Delete %d", e)
		}
		checkHeight(t, "taken out", p)
	}
}

func TestHeightOfWhatIsLeft(t *testing.T) {
	for _, keep := range []int{1, 2, 7, 31} {
		k := made(t, rising(3000))
		for i := 0; i < len(k.l); i += keep {
			k.delete(t, i, min(len(k.l), i+60))
			checkHeight(t, "little left here and there", k.p)
		}
		k.check(t, "little left here and there")
	}
	for n := 1; n < 1500; n = n*3/2 + 1 {
		k := made(t, rising(1500))
		k.patch(t, 0, n, to(14, 1))
		checkHeight(t, "alike at the front", k.p)
		k.patch(t, 1500-n, 1500, to(14, 2))
		k.records(t, "alike at the front, and behind")
	}
}

// Errors

// What is refused changes nothing, and beside an error there is nothing.
func TestRefused(t *testing.T) {
	for _, n := range []int{0, 1, 33, 90} {
		for _, l := range lists(n) {
			k := made(t, l)
			height := k.p.Height()
			for _, i := range append(ends(), -3, n+1, n+2) {
				if 0 <= i && i <= n {
					continue
				}
				k.at(t, "refused", i)
				for _, in := range []list{nil, {}, {nil}, {of(14, 1)}, rising(40)} {
					k.insert(t, i, in)
				}
				for _, pair := range [][2]int{{i, i}, {min(i, 0), max(i, n)}, {0, i}, {i, n}, {i, 0}, {n, i}} {
					if wantReach(n, pair[0], pair[1]) == 0 {
						continue
					}
					k.over(t, "refused", pair[0], pair[1])
					k.delete(t, pair[0], pair[1])
					k.patch(t, pair[0], pair[1], nil)
					k.patch(t, pair[0], pair[1], to(14, 1))
				}
			}
			k.at(t, "refused", n)
			for _, pair := range [][2]int{{1, 0}, {n, n - 1}, {n/2 + 1, n / 2}, {n, 0}, {n + 1, n}, {0, -1}} {
				if wantReach(n, pair[0], pair[1]) == 0 {
					continue
				}
				k.over(t, "refused", pair[0], pair[1])
				k.delete(t, pair[0], pair[1])
				k.patch(t, pair[0], pair[1], to(14, 1))
			}
			k.check(t, "after what was refused")
			if !sameList(k.l, l) || k.p.Height() != height {
				t.Fatalf("refused, and there is %v, and was %v, the height %d, and was %d", k.l, l, k.p.Height(), height)
			}
		}
	}
}

func TestRefusedLeavesAZeroOneZero(t *testing.T) {
	var p Para
	p.Insert(1, list{nil})
	p.Insert(-1, nil)
	p.Delete(0, 1)
	p.Delete(-1, 0)
	p.Patch(0, 1, to(14, 1))
	p.Patch(1, 1, nil)
	p.At(0)
	p.Over(0, 0)
	p.Over(0, 1)
	p.Len()
	p.Height()
	p.Copy()
	if p != (Para{}) {
		t.Fatal("it is not zero any more")
	}
}

func TestOnesThatAreNotThere(t *testing.T) {
	var p *Para
	if n, h, c := p.Len(), p.Height(), p.Copy(); n != 0 || h != 0 || c != nil {
		t.Fatalf("Len %d, Height %d, Copy %v", n, h, c)
	}
	for _, i := range places(2) {
		if s, e := p.At(i); len(s) != 0 || e != api.ErrNil {
			t.Fatalf("At(%d) %v, %d", i, s, e)
		}
		for _, l := range []list{nil, {}, {nil}, {of(14, 1)}, rising(40)} {
			if e := p.Insert(i, l); e != api.ErrNil {
				t.Fatalf("Insert(%d, %v) %d", i, l, e)
			}
		}
		for _, j := range []int{math.MinInt, -1, 0, 1, math.MaxInt} {
			if l, e := p.Over(i, j); len(l) != 0 || e != api.ErrNil {
				t.Fatalf("Over(%d, %d) %v, %d", i, j, l, e)
			}
			if e := p.Delete(i, j); e != api.ErrNil {
				t.Fatalf("Delete(%d, %d) %d", i, j, e)
			}
			for _, x := range patches() {
				if e := p.Patch(i, j, x); e != api.ErrNil {
					t.Fatalf("Patch(%d, %d, %v) %d", i, j, x, e)
				}
			}
		}
	}
}

// Long rows of calls

// TestAllShortRows goes through all rows of steps.
func TestAllShortRows(t *testing.T) {
	a, b, c := of(14, 1), of(14, 2), of(13, 1, 14, 1)
	steps := []func(k *known){
		func(k *known) { k.insert(t, 0, list{a, a}) },
		func(k *known) { k.insert(t, len(k.l), list{a, b}) },
		func(k *known) { k.insert(t, len(k.l)/2, list{b, c, a, nil, nil}) },
		func(k *known) { k.delete(t, 0, min(1, len(k.l))) },
		func(k *known) { k.delete(t, len(k.l)/3, len(k.l)/3*2) },
		func(k *known) { k.delete(t, len(k.l)/2, len(k.l)) },
		func(k *known) { k.patch(t, 0, len(k.l), to(14, 1)) },
		func(k *known) { k.patch(t, len(k.l)/3, len(k.l), both(to(13, 1), without(14))) },
		func(k *known) { k.patch(t, 0, len(k.l)/2, without(13)) },
		func(k *known) { k.patch(t, len(k.l)/2, min(len(k.l)/2+1, len(k.l)), to(14, 2)) },
		func(k *known) { k.insert(t, len(k.l)+1, list{c}) },
		func(k *known) { k.patch(t, 1, len(k.l)+1, to(14, 3)) },
	}
	var goOn func(k *known, left int)
	goOn = func(k *known, left int) {
		for n, step := range steps {
			o := k.copy(t)
			step(o)
			o.records(t, fmt.Sprintf("step %d, %d left", n, left))
			if left > 0 {
				goOn(o, left-1)
			}
		}
	}
	goOn(&known{p: &Para{}}, 3)
}

func TestLongRows(t *testing.T) {
	for first := range 8 {
		r := rule(first)
		pool := []*known{made(t, nil), {p: &Para{}}, made(t, r.list(50)), made(t, r.list(200))}
		for step := range 1500 {
			k := pool[r.next(len(pool))]
			if r.next(12) == 0 {
				pool[r.next(len(pool))] = k.copy(t)
			}
			k.step(t, &r)
			k.records(t, fmt.Sprintf("row %d, step %d", first, step))
			if step%150 == 0 {
				for _, p := range pool {
					p.check(t, fmt.Sprintf("row %d, step %d", first, step))
				}
			}
		}
	}
}

// step does something to the records, at places of which some are none.
func (k *known) step(t *testing.T, r *rule) {
	t.Helper()
	i := r.next(len(k.l)+3) - 1
	j := i + r.next(min(len(k.l), 12)+2) - 1
	switch r.next(9) {
	case 0:
		k.delete(t, i, i+r.next(len(k.l)/2+30))
	case 1:
		k.insert(t, i, r.list(r.next(80)))
	case 2:
		k.insert(t, i, sets()[r.next(30):][:r.next(8)])
	case 3:
		k.patch(t, i, i+r.next(len(k.l)/2+40), r.patch())
	case 4:
		k.patch(t, i, j, patches()[r.next(len(patches()))])
	case 5:
		k.patch(t, i, j, r.patch())
	case 6:
		k.delete(t, i, j)
	default:
		k.insert(t, i, r.list(r.next(12)))
	}
}
