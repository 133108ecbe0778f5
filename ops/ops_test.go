package ops

import (
	"math"
	"math/big"
	"slices"
	"strings"
	"testing"

	"rubric/api"
	"rubric/schema"
	"rubric/value"
)

var (
	_ func(*schema.Schema, []api.Op) api.Errno           = May
	_ func([]api.Op) int                                 = Takes
	_ func([]api.Op) int                                 = Makes
	_ func(*schema.Schema, []api.Op) bool                = InPlace
	_ func(*schema.Schema, []api.Op, int, int) api.Errno = Fits
	_ func([]api.Op, []api.Op) bool                      = Same
	_ func([]api.Op) []api.Op                            = Copy
)

// The model: the chapter's words, said of a schema's keys as a plain list, of lists that are gone over from end to end, of cells that are taken one by one, and of numbers without bounds.

func keyOf(keys []api.Key, id int) (api.Key, bool) {
	for _, k := range keys {
		if k.ID == id {
			return k, true
		}
	}
	return api.Key{}, false
}

func runeMay(r int32) bool {
	return 0 <= r && r < 0xd800 || 0xdfff < r && r <= 0x10ffff
}

func setMay(keys []api.Key, set []api.Attr) api.Errno {
	for i, a := range set {
		if i == 64 || i > 0 && set[i-1].Key >= a.Key || !value.May(a.Value) {
			return api.ErrMalformed
		}
	}
	for _, a := range set {
		if k, there := keyOf(keys, a.Key); !there || k.Kind != a.Value.Kind {
			return api.ErrKey
		}
	}
	return api.OK
}

func patchMay(keys []api.Key, p []api.Change) api.Errno {
	for i, c := range p {
		if i == 64 || i > 0 && p[i-1].Key >= c.Key {
			return api.ErrMalformed
		}
		if c.Gone && c.Value != (api.Value{}) || !c.Gone && !value.May(c.Value) {
			return api.ErrMalformed
		}
	}
	for _, c := range p {
		if k, there := keyOf(keys, c.Key); !there || !c.Gone && k.Kind != c.Value.Kind {
			return api.ErrKey
		}
	}
	return api.OK
}

func lengthOf(o api.Op) int {
	if o.Kind == 2 {
		return len(o.Runes)
	}
	return o.N
}

// sumOf is how long all ops of these kinds are together.
func sumOf(x []api.Op, kinds ...uint8) *big.Int {
	sum := new(big.Int)
	for _, o := range x {
		if slices.Contains(kinds, o.Kind) {
			sum.Add(sum, big.NewInt(int64(lengthOf(o))))
		}
	}
	return sum
}

func above(n *big.Int, bound int) bool {
	return n.Cmp(big.NewInt(int64(bound))) > 0
}

func opMalformed(keys []api.Key, o api.Op) bool {
	switch o.Kind {
	case 1:
		return o.N < 1 || o.N > 1<<29 || len(o.Runes) != 0 || len(o.Set) != 0 || patchMay(keys, o.Patch) == api.ErrMalformed
	case 2:
		wrong := slices.ContainsFunc(o.Runes, func(r int32) bool { return !runeMay(r) })
		return len(o.Runes) < 1 || len(o.Runes) > 1<<29 || o.N != 0 || len(o.Patch) != 0 || wrong || setMay(keys, o.Set) == api.ErrMalformed
	case 3:
		return o.N < 1 || o.N > 1<<29 || len(o.Runes) != 0 || len(o.Set) != 0 || len(o.Patch) != 0
	}
	return true
}

func mayOf(keys []api.Key, x []api.Op) api.Errno {
	for _, o := range x {
		if opMalformed(keys, o) {
			return api.ErrMalformed
		}
	}
	if above(sumOf(x, 1, 3), 1<<29) || above(sumOf(x, 1, 2), 1<<29) {
		return api.ErrMalformed
	}
	for _, o := range x {
		if setMay(keys, o.Set) == api.ErrKey || patchMay(keys, o.Patch) == api.ErrKey {
			return api.ErrKey
		}
	}
	return api.OK
}

func insertInPlace(keys []api.Key, o api.Op) bool {
	inline, block, newlines := 0, 0, 0
	for _, a := range o.Set {
		k, there := keyOf(keys, a.Key)
		switch {
		case there && k.Block:
			block++
		case there:
			inline++
		}
	}
	for _, r := range o.Runes {
		if r == 10 {
			newlines++
		}
	}
	all := len(o.Set)
	return all == 0 || inline == all && newlines == 0 || block == all && newlines == len(o.Runes)
}

func inPlaceOf(keys []api.Key, x []api.Op) bool {
	for _, o := range x {
		if o.Kind == 2 && !insertInPlace(keys, o) {
			return false
		}
	}
	return true
}

// placesOf tells of a delta that may be whether it is on n cells, and whether the last of these is left where it is.
func placesOf(x []api.Op, n int) (within, lastStays bool) {
	if above(sumOf(x, 1, 3), n) {
		return false, false
	}
	ahead := 0
	for _, o := range x {
		last := n - 1
		if o.Kind == 3 && ahead <= last && last < ahead+o.N || o.Kind == 2 && ahead > last {
			return true, false
		}
		if o.Kind != 2 {
			ahead += o.N
		}
	}
	return true, true
}

// placesOneByOne tells the same, and how many cells there are behind the delta, of a row of cells.
func placesOneByOne(x []api.Op, n int) (within, lastStays bool, made int) {
	var row []int
	next, stays := 0, true
	for _, o := range x {
		for range lengthOf(o) {
			if o.Kind == 2 {
				row = append(row, -1)
				stays = stays && next < n
				continue
			}
			if next == n {
				return false, false, 0
			}
			if o.Kind == 1 {
				row = append(row, next)
			}
			next++
		}
	}
	for ; next < n; next++ {
		row = append(row, next)
	}
	return true, stays && len(row) > 0 && row[len(row)-1] == n-1, len(row)
}

func fitsOf(keys []api.Key, x []api.Op, n, most int) api.Errno {
	if e := mayOf(keys, x); e != api.OK {
		return e
	}
	if n < 1 || n > most {
		return api.ErrRange
	}
	within, lastStays := placesOf(x, n)
	made := new(big.Int).Sub(big.NewInt(int64(n)), sumOf(x, 1, 3))
	made.Add(made, sumOf(x, 1, 2))
	switch {
	case !within:
		return api.ErrRange
	case !lastStays:
		return api.ErrFinal
	case !inPlaceOf(keys, x):
		return api.ErrScope
	case above(made, most):
		return api.ErrTooLong
	}
	return api.OK
}

// fitsOneByOne is said of cells that are there: of few of them.
func fitsOneByOne(keys []api.Key, x []api.Op, n, most int) api.Errno {
	if e := mayOf(keys, x); e != api.OK {
		return e
	}
	if n < 1 || n > most {
		return api.ErrRange
	}
	switch within, lastStays, made := placesOneByOne(x, n); {
	case !within:
		return api.ErrRange
	case !lastStays:
		return api.ErrFinal
	case !inPlaceOf(keys, x):
		return api.ErrScope
	case made > most:
		return api.ErrTooLong
	}
	return api.OK
}

func alikeValues(a, b api.Value) bool {
	return a.Kind == b.Kind && a.N == b.N && a.F == b.F && a.S == b.S
}

func alike(x, y []api.Op) bool {
	return slices.EqualFunc(x, y, func(o, p api.Op) bool {
		sets := slices.EqualFunc(o.Set, p.Set, func(a, b api.Attr) bool { return a.Key == b.Key && alikeValues(a.Value, b.Value) })
		patches := slices.EqualFunc(o.Patch, p.Patch, func(c, d api.Change) bool {
			return c.Key == d.Key && c.Gone == d.Gone && alikeValues(c.Value, d.Value)
		})
		return o.Kind == p.Kind && o.N == p.N && slices.Equal(o.Runes, p.Runes) && sets && patches
	})
}

// The rows of the tests.

func flag(b bool) api.Value { return value.Flag(b) }

func num(n int64) api.Value { return value.Int(n) }

func text(s string) api.Value { return api.Value{Kind: api.ValText, S: s} }

func attr(key int, v api.Value) api.Attr { return api.Attr{Key: key, Value: v} }

func set(key int, v api.Value) api.Change { return api.Change{Key: key, Value: v} }

func gone(key int) api.Change { return api.Change{Key: key, Gone: true} }

func retain(n int, p ...api.Change) api.Op { return api.Op{Kind: 1, N: n, Patch: p} }

func insert(l []int32, set ...api.Attr) api.Op { return api.Op{Kind: 2, Runes: l, Set: set} }

func insertText(s string, set ...api.Attr) api.Op {
	var l []int32
	for _, r := range s {
		l = append(l, r)
	}
	return insert(l, set...)
}

func remove(n int) api.Op { return api.Op{Kind: 3, N: n} }

func delta(x ...api.Op) []api.Op { return x }

// good are inline keys and block keys of each kind.
func good() []api.Key {
	return []api.Key{
		{ID: 1, Kind: 1, After: true},
		{ID: 2, Kind: 2, Before: true},
		{ID: 3, Kind: 3},
		{ID: 4, Kind: 4},
		{ID: 11, Block: true, Kind: 2, Group: 1, After: true},
		{ID: 12, Block: true, Kind: 4, Group: 1},
		{ID: 13, Block: true, Kind: 1},
		{ID: 1000, Block: true, Kind: 3},
	}
}

// full are as many keys as may be, all of whole numbers, inline ones and block ones in turn.
func full() []api.Key {
	var l []api.Key
	for i := range 64 {
		l = append(l, api.Key{ID: 1 + i, Kind: 2, Block: i%2 == 1})
	}
	return l
}

func rowsOfKeys() [][]api.Key {
	return [][]api.Key{nil, good(), full()}
}

// setOfAll has n attributes of the keys from first on.
func setOfAll(first, n int) []api.Attr {
	var l []api.Attr
	for i := range n {
		l = append(l, attr(first+i, num(int64(i))))
	}
	return l
}

// someSets are such as may be, such as a schema has not, and such as are malformed.
func someSets() [][]api.Attr {
	yes := flag(true)
	l := [][]api.Attr{
		nil,
		{},
		{attr(1, yes)},
		{attr(2, num(math.MinInt64))},
		{attr(1, yes), attr(2, num(3)), attr(3, value.Float(math.NaN())), attr(4, text(strings.Repeat("\u00e4", 32)))},
		{attr(11, num(3))},
		{attr(11, num(1)), attr(12, text("a")), attr(13, flag(false)), attr(1000, value.Float(-0.5))},
		{attr(1, yes), attr(11, num(3))},
		{attr(0, yes)},
		{attr(-1, yes)},
		{attr(5, num(3))},
		{attr(1001, num(3))},
		{attr(math.MinInt, yes), attr(1, yes), attr(math.MaxInt, yes)},
		{attr(1<<32+1, yes)},
		{attr(1, yes), attr(5, yes)},
		{attr(1, num(1))},
		{attr(2, value.Float(1))},
		{attr(12, num(1))},
		setOfAll(1, 63), setOfAll(1, 64), setOfAll(2, 64), setOfAll(1, 65), setOfAll(0, 66),
		setOfAll(-200, 64), setOfAll(-200, 65), setOfAll(1, 1000),
		{attr(2, num(1)), attr(1, yes)},
		{attr(1, yes), attr(1, yes)},
		{attr(1, yes), attr(2, num(1)), attr(2, num(2))},
		{attr(5, yes), attr(1, yes)},
		{attr(1, yes), attr(11, num(3)), attr(4, text("a"))},
		{attr(math.MaxInt, yes), attr(math.MinInt, yes)},
	}
	for _, v := range malformedValues() {
		l = append(l, []api.Attr{attr(int(v.Kind), v)}, []api.Attr{attr(5, v)}, []api.Attr{attr(1, yes), attr(2, v)}, []api.Attr{attr(-1, yes), attr(4, v), attr(13, yes)})
	}
	return l
}

func malformedValues() []api.Value {
	return []api.Value{
		{},
		{N: 1},
		{Kind: 5},
		{Kind: 255, N: 1},
		{Kind: 1, N: 2},
		{Kind: 1, N: -1},
		{Kind: 1, S: "a"},
		{Kind: 2, N: 3, F: 1},
		{Kind: 2, S: "a"},
		{Kind: 3, F: api.NaN + 1},
		{Kind: 3, N: 1},
		{Kind: 4, S: "\xff"},
		{Kind: 4, S: strings.Repeat("a", 65)},
		{Kind: 4, N: 1},
	}
}

// somePatches are the sets, with each change a value, and with each one in turn Gone, with and without a value.
func somePatches() [][]api.Change {
	var l [][]api.Change
	for _, s := range someSets() {
		p := []api.Change{}
		for _, a := range s {
			p = append(p, set(a.Key, a.Value))
		}
		l = append(l, p)
		for i := 0; i < len(p); i += 1 + len(p)/3 {
			q, r := slices.Clone(p), slices.Clone(p)
			q[i] = gone(p[i].Key)
			r[i].Gone = true
			l = append(l, q, r)
		}
	}
	return append(l, []api.Change{gone(1), gone(2), gone(13)}, []api.Change{gone(2), gone(1)}, []api.Change{gone(2), gone(2)}, []api.Change{gone(2), set(2, num(1))})
}

func ints() []int {
	l := []int{math.MinInt, math.MinInt + 1, -1 << 62, -1 << 32, -1<<32 + 1, -1 << 31, -1 << 29, -256, -255, 255, 256, 257, 1 << 16, 1<<28 + 1, 1<<29 - 1, 1 << 29, 1<<29 + 1, 1 << 30, 1<<31 - 1, 1 << 31, 1<<32 - 1, 1 << 32, 1<<32 + 1, 1<<32 + 1<<29, 1 << 62, math.MaxInt - 1, math.MaxInt}
	for n := -3; n <= 5; n++ {
		l = append(l, n)
	}
	return l
}

// wrongRunes may not be.
func wrongRunes() []int32 {
	return []int32{math.MinInt32, -0x10ffff, -97, -11, -10, -1, 0xd800, 0xd801, 0xdabc, 0xdfff, 0x110000, 0x110001, 0x1000000 + 10, math.MaxInt32}
}

// otherRunes may be, and are no newlines, though some of them are 10 in fewer bits, or end lines elsewhere.
func otherRunes() []int32 {
	return []int32{0, 1, 9, 11, 12, 13, 0x7f, 0x80, 0x85, 0xff, 256 + 10, 0x7ff, 0x800, 0x2028, 0x2029, 0xd7ff, 0xe000, 0xfffd, 0xffff, 0x10000, 0x10000 + 10, 0x10ffff}
}

// deltasOf are all rows of at most so many of the ops.
func deltasOf(of []api.Op, most int) [][]api.Op {
	l := [][]api.Op{nil}
	longest := l
	for range most {
		var longer [][]api.Op
		for _, x := range longest {
			for _, o := range of {
				longer = append(longer, append(slices.Clone(x), o))
			}
		}
		l = append(l, longer...)
		longest = longer
	}
	return l
}

// someOps are of each kind, such as may be, such as the schema of good keys has not, and such as are malformed in each way.
func someOps() []api.Op {
	return []api.Op{
		retain(2),
		retain(1, set(1, flag(true))),
		insertText("a"),
		insertText("bc\n", attr(11, num(1))),
		remove(3),
		retain(1, set(5, num(1))),
		insertText("a", attr(1, num(1))),
		retain(0),
		retain(1<<29 - 1),
		insertText(""),
		insert([]int32{97, 0xd800}),
		insertText("a", attr(2, num(1)), attr(1, flag(true))),
		retain(1, set(2, num(1)), set(1, flag(true))),
		remove(1<<29 - 3),
		{},
	}
}

// rule makes rows that are long and alike each time.
type rule uint64

func (r *rule) upTo(n int) int {
	*r = *r*6364136223846793005 + 1442695040888963407
	return int(uint64(*r) >> 33 % uint64(n))
}

func (r *rule) value(kind uint8) api.Value {
	switch kind {
	case 1:
		return flag(r.upTo(2) == 0)
	case 2:
		return num(int64(r.upTo(7) - 3))
	case 3:
		return value.Float(float64(r.upTo(5)) / 2)
	}
	return text(strings.Repeat("ab", r.upTo(3)))
}

// set is of inline keys, of block keys, or of both; seldom with what is wrong.
func (r *rule) set(keys []api.Key, wrong int) []api.Attr {
	var l []api.Attr
	which := r.upTo(7)
	for _, k := range keys {
		if r.upTo(3) == 0 && (which == 6 || k.Block == (which%2 == 0)) {
			l = append(l, attr(k.ID, r.value(k.Kind)))
		}
	}
	if len(l) > 0 && r.upTo(wrong) == 0 {
		a := &l[r.upTo(len(l))]
		switch r.upTo(3) {
		case 0:
			a.Key += r.upTo(9) - 4
		case 1:
			a.Value = r.value(uint8(1 + r.upTo(4)))
		case 2:
			a.Value = malformedValues()[r.upTo(len(malformedValues()))]
		}
	}
	return l
}

func (r *rule) patch(keys []api.Key, wrong int) []api.Change {
	var l []api.Change
	for _, a := range r.set(keys, wrong) {
		c := set(a.Key, a.Value)
		if r.upTo(3) == 0 {
			c = gone(a.Key)
		}
		l = append(l, c)
	}
	return l
}

// runes are newlines alone, others alone, or both.
func (r *rule) runes() []int32 {
	which := r.upTo(5)
	var l []int32
	for range 1 + r.upTo(6) {
		newline := which == 0 || which == 1 && r.upTo(2) == 0
		if newline {
			l = append(l, 10)
		} else {
			l = append(l, otherRunes()[r.upTo(len(otherRunes()))])
		}
	}
	return l
}

func (r *rule) op(keys []api.Key, wrong int) api.Op {
	if r.upTo(wrong) == 0 {
		return someOps()[r.upTo(len(someOps()))]
	}
	switch r.upTo(3) {
	case 0:
		return retain(1+r.upTo(6), r.patch(keys, wrong)...)
	case 1:
		return insert(r.runes(), r.set(keys, wrong)...)
	}
	return remove(1 + r.upTo(4))
}

func (r *rule) delta(keys []api.Key, most, wrong int) []api.Op {
	var x []api.Op
	for range r.upTo(most + 1) {
		x = append(x, r.op(keys, wrong))
	}
	return x
}

// Checks. Each test ends at its first fault: the rows are long, and what is wrong with one is wrong with many.

func made(t *testing.T, keys []api.Key) *schema.Schema {
	t.Helper()
	s, e := schema.New(keys)
	if e != api.OK {
		t.Fatalf("a schema of %+v: %d", keys, e)
	}
	return s
}

func checkErrno(t *testing.T, what string, e, want api.Errno) {
	t.Helper()
	if e != want {
		t.Fatalf("%s: %d; want %d", what, e, want)
	}
}

// checkMay holds May against the model, and, of a delta that may be, Takes and Makes.
func checkMay(t *testing.T, s *schema.Schema, keys []api.Key, x []api.Op) {
	t.Helper()
	e, want := May(s, x), mayOf(keys, x)
	if e != want {
		t.Fatalf("May of %+v: %d; want %d", x, e, want)
	}
	if e != api.ErrMalformed {
		checkMuch(t, x, int(sumOf(x, 1, 3).Int64()), int(sumOf(x, 1, 2).Int64()))
	}
}

func checkMuch(t *testing.T, x []api.Op, takes, makes int) {
	t.Helper()
	if Takes(x) != takes || Makes(x) != makes {
		t.Fatalf("%+v takes %d and makes %d; want %d, %d", x, Takes(x), Makes(x), takes, makes)
	}
}

func checkInPlace(t *testing.T, s *schema.Schema, keys []api.Key, x []api.Op) {
	t.Helper()
	if is, want := InPlace(s, x), inPlaceOf(keys, x); is != want {
		t.Fatalf("InPlace of %+v: %v; want %v", x, is, want)
	}
}

func checkFits(t *testing.T, s *schema.Schema, keys []api.Key, x []api.Op, n, most int) {
	t.Helper()
	if e, want := Fits(s, x, n, most), fitsOf(keys, x, n, most); e != want {
		t.Fatalf("Fits of %+v on %d cells, most %d: %d; want %d", x, n, most, e, want)
	}
}

func checkSame(t *testing.T, x, y []api.Op, want bool) {
	t.Helper()
	if Same(x, y) != want || Same(y, x) != want {
		t.Fatalf("Same of %+v and %+v: %v, %v; want %v", x, y, Same(x, y), Same(y, x), want)
	}
}

func checkAlike(t *testing.T, what string, x, want []api.Op) {
	t.Helper()
	if !alike(x, want) {
		t.Fatalf("%s: %+v; want %+v", what, x, want)
	}
}

// The chapter's examples, and the constants.

func TestExamples(t *testing.T) {
	s := made(t, good())
	cases := []struct {
		what string
		x    []api.Op
		e    api.Errno
	}{
		{"retain 2, insert a", delta(retain(2), insertText("a")), api.OK},
		{"retain 3, insert a", delta(retain(3), insertText("a")), api.ErrFinal},
		{"retain 2, delete 1", delta(retain(2), remove(1)), api.ErrFinal},
		{"retain 4", delta(retain(4)), api.ErrRange},
		{"insert ab", delta(insertText("ab")), api.ErrTooLong},
		{"insert of a newline and a, with an inline key", delta(insertText("\na", attr(1, flag(true)))), api.ErrScope},
	}
	for _, c := range cases {
		checkErrno(t, c.what, Fits(s, c.x, 3, 4), c.e)
	}
}

func TestConstants(t *testing.T) {
	if api.OpRetain != 1 || api.OpInsert != 2 || api.OpDelete != 3 || api.MaxLen != 1<<29 || api.MaxText != 64 || api.MaxKeys != 64 || api.Newline != 10 {
		t.Error("kinds and limits", api.OpRetain, api.OpInsert, api.OpDelete, api.MaxLen, api.MaxText, api.MaxKeys, api.Newline)
	}
	if api.OK != 0 || api.ErrMalformed != 3 || api.ErrKey != 4 || api.ErrRange != 5 || api.ErrFinal != 6 || api.ErrScope != 7 || api.ErrTooLong != 8 {
		t.Error("errors", api.OK, api.ErrMalformed, api.ErrKey, api.ErrRange, api.ErrFinal, api.ErrScope, api.ErrTooLong)
	}
}

// TestRowsOfTheTests holds what the tests are made of against what they say of it.
func TestRowsOfTheTests(t *testing.T) {
	for _, keys := range rowsOfKeys() {
		if s := made(t, keys); !slices.Equal(s.Keys(), keys) {
			t.Errorf("%+v are no keys that rise", keys)
		}
	}
	count := map[api.Errno]int{}
	for _, l := range someSets() {
		count[setMay(good(), l)]++
	}
	for _, p := range somePatches() {
		count[patchMay(good(), p)]++
	}
	if count[api.OK] < 10 || count[api.ErrKey] < 10 || count[api.ErrMalformed] < 10 {
		t.Error("sets and patches by what is told of them", count)
	}
	count = map[api.Errno]int{}
	for _, o := range someOps() {
		count[mayOf(good(), delta(o))]++
	}
	if count[api.OK] != 7 || count[api.ErrKey] != 2 || count[api.ErrMalformed] != 6 {
		t.Error("ops by what is told of them", count)
	}
	for _, v := range malformedValues() {
		if value.May(v) {
			t.Errorf("%+v may be", v)
		}
	}
	if len(deltasOf(someOps()[:3], 3)) != 1+3+9+27 {
		t.Error("rows of ops", len(deltasOf(someOps()[:3], 3)))
	}
}

// P15.1

func TestNoDelta(t *testing.T) {
	for _, keys := range rowsOfKeys() {
		s := made(t, keys)
		for _, x := range [][]api.Op{nil, {}, make([]api.Op, 3)[:0], someOps()[:0]} {
			checkErrno(t, "May of nothing", May(s, x), api.OK)
			checkMuch(t, x, 0, 0)
		}
	}
}

func TestKinds(t *testing.T) {
	s := made(t, good())
	for kind := range 256 {
		k := uint8(kind)
		for _, o := range []api.Op{
			{Kind: k},
			{Kind: k, N: 1},
			{Kind: k, Runes: []int32{97}},
			{Kind: k, N: 1, Patch: []api.Change{set(1, flag(true))}},
			{Kind: k, Runes: []int32{97}, Set: []api.Attr{attr(1, flag(true))}},
			{Kind: k, N: 1, Runes: []int32{97}},
		} {
			checkMay(t, s, good(), delta(o))
			checkMay(t, s, good(), delta(retain(1), o))
			checkMay(t, s, good(), delta(o, insertText("a", attr(5, num(1)))))
		}
	}
	checkErrno(t, "May of a retain", May(s, delta(retain(1))), api.OK)
	checkErrno(t, "May of an insert", May(s, delta(insertText("a"))), api.OK)
	checkErrno(t, "May of a delete", May(s, delta(remove(1))), api.OK)
	for _, k := range []uint8{0, 4, 255} {
		checkErrno(t, "May of no kind", May(s, delta(api.Op{Kind: k, N: 1})), api.ErrMalformed)
		checkErrno(t, "May of no kind", May(s, delta(api.Op{Kind: k, Runes: []int32{97}})), api.ErrMalformed)
	}
}

// TestFieldsOfEachKind has all fields together: there, empty, and not there.
func TestFieldsOfEachKind(t *testing.T) {
	lists := [][]int32{nil, {}, {97}, {10, 97}, {0xd800}, make([]int32, 1)[:0]}
	sets := [][]api.Attr{nil, {}, {attr(1, flag(true))}, {attr(5, flag(true))}, {attr(1, api.Value{})}}
	patches := [][]api.Change{nil, {}, {set(1, flag(true))}, {gone(11)}, {gone(5)}, {gone(2), gone(1)}}
	for _, keys := range rowsOfKeys() {
		s := made(t, keys)
		for _, kind := range []uint8{0, 1, 2, 3, 4, 255} {
			for _, n := range []int{0, 1, 2, -1, 1 << 29, 1<<29 + 1, math.MinInt, math.MaxInt, 1 << 32} {
				for _, l := range lists {
					for _, set := range sets {
						for _, p := range patches {
							checkMay(t, s, keys, delta(api.Op{Kind: kind, N: n, Runes: l, Set: set, Patch: p}))
						}
					}
				}
			}
		}
	}
}

func TestFieldsInWords(t *testing.T) {
	s := made(t, good())
	one, on, by := []int32{97}, []api.Attr{attr(1, flag(true))}, []api.Change{gone(1)}
	cases := []struct {
		what string
		o    api.Op
		e    api.Errno
	}{
		{"a retain with a patch", api.Op{Kind: 1, N: 1, Patch: by}, api.OK},
		{"a retain with empty lists", api.Op{Kind: 1, N: 1, Runes: one[:0], Set: on[:0], Patch: by[:0]}, api.OK},
		{"a retain with runes", api.Op{Kind: 1, N: 1, Runes: one}, api.ErrMalformed},
		{"a retain with a set", api.Op{Kind: 1, N: 1, Set: on}, api.ErrMalformed},
		{"an insert with a set", api.Op{Kind: 2, Runes: one, Set: on}, api.OK},
		{"an insert with empty lists", api.Op{Kind: 2, Runes: one, Set: on[:0], Patch: by[:0]}, api.OK},
		{"an insert with as many as it has runes", api.Op{Kind: 2, N: 1, Runes: one}, api.ErrMalformed},
		{"an insert with a number below 0", api.Op{Kind: 2, N: -1, Runes: one}, api.ErrMalformed},
		{"an insert with a patch", api.Op{Kind: 2, Runes: one, Patch: by}, api.ErrMalformed},
		{"a delete with empty lists", api.Op{Kind: 3, N: 1, Runes: one[:0], Set: on[:0], Patch: by[:0]}, api.OK},
		{"a delete with runes", api.Op{Kind: 3, N: 1, Runes: one}, api.ErrMalformed},
		{"a delete with a set", api.Op{Kind: 3, N: 1, Set: on}, api.ErrMalformed},
		{"a delete with a patch", api.Op{Kind: 3, N: 1, Patch: by}, api.ErrMalformed},
		{"a delete with a key that the schema has not", api.Op{Kind: 3, N: 1, Patch: []api.Change{gone(5)}}, api.ErrMalformed},
	}
	for _, c := range cases {
		checkErrno(t, "May of "+c.what, May(s, delta(c.o)), c.e)
		checkErrno(t, "May of "+c.what+", behind others", May(s, delta(retain(1), insertText("a"), c.o)), c.e)
		checkErrno(t, "May of "+c.what+", ahead of others", May(s, delta(c.o, remove(1), insertText("a"))), c.e)
	}
}

func TestLengths(t *testing.T) {
	s := made(t, good())
	for _, n := range ints() {
		want := api.ErrMalformed
		if 1 <= n && n <= 1<<29 {
			want = api.OK
		}
		checkErrno(t, "May of a retain", May(s, delta(retain(n))), want)
		checkErrno(t, "May of a retain with a patch", May(s, delta(retain(n, gone(1)))), want)
		checkErrno(t, "May of a delete", May(s, delta(remove(n))), want)
		for _, o := range someOps() {
			checkMay(t, s, good(), delta(retain(n), o))
			checkMay(t, s, good(), delta(o, remove(n)))
			checkMay(t, s, good(), delta(o, retain(n), o))
		}
		for _, m := range ints() {
			checkMay(t, s, good(), delta(retain(n), retain(m)))
			checkMay(t, s, good(), delta(retain(n), remove(m)))
			checkMay(t, s, good(), delta(remove(n), remove(m)))
			checkMay(t, s, good(), delta(remove(n), insertText("a"), retain(m)))
		}
	}
	checkErrno(t, "May of an insert of no runes", May(s, delta(insert(nil))), api.ErrMalformed)
	checkErrno(t, "May of an insert of an empty list", May(s, delta(insert([]int32{}))), api.ErrMalformed)
	checkErrno(t, "May of an insert of no runes with a set", May(s, delta(insert(nil, attr(1, flag(true))))), api.ErrMalformed)
	for _, n := range []int{1, 2, 31, 32, 33, 64, 65, 255, 256, 257, 1 << 16, 1<<16 + 1} {
		checkMay(t, s, good(), delta(insert(make([]int32, n), attr(1, flag(true)))))
	}
}

// TestTheLongestInsert has as many runes as may be in one list, and one more.
func TestTheLongestInsert(t *testing.T) {
	s := made(t, good())
	l := make([]int32, 1<<29+1)
	longest, longer := delta(insert(l[1:])), delta(insert(l))
	checkErrno(t, "May of the longest insert", May(s, longest), api.OK)
	checkErrno(t, "May of a longer one", May(s, longer), api.ErrMalformed)
	checkErrno(t, "May of the longest insert and a rune", May(s, append(longest, insertText("a"))), api.ErrMalformed)
	checkErrno(t, "May of the longest insert and a retain", May(s, append(longest, retain(1))), api.ErrMalformed)
	checkMuch(t, append(longest, remove(5)), 5, 1<<29)
	checkErrno(t, "Fits of the longest insert", Fits(s, longest, 1, 1<<29), api.ErrTooLong)
	checkErrno(t, "Fits of the longest insert", Fits(s, longest, 1, 1<<29+1), api.OK)
	l[1<<29] = 0x110000
	checkErrno(t, "May of the longest insert with what is no rune", May(s, longest), api.ErrMalformed)
}

func TestRunes(t *testing.T) {
	s := made(t, good())
	for _, r := range append(otherRunes(), 10, 97) {
		checkErrno(t, "May of runes that may be", May(s, delta(insert([]int32{r}), insert([]int32{97, r, r}))), api.OK)
	}
	for _, r := range wrongRunes() {
		for at := range 7 {
			l := []int32{97, 10, 0, 0x10ffff, 0xd7ff, 0xe000, 98}
			l[at] = r
			checkErrno(t, "May of what is no rune", May(s, delta(insert(l))), api.ErrMalformed)
			checkErrno(t, "May of what is no rune, behind others", May(s, delta(retain(3), insertText("abc"), remove(1), insert(l))), api.ErrMalformed)
			checkErrno(t, "May of what is no rune, ahead of others", May(s, delta(insert(l[at:at+1]), insertText("abc"))), api.ErrMalformed)
			checkErrno(t, "May of what is no rune beside a wrong key", May(s, delta(insert(l, attr(5, num(1))))), api.ErrMalformed)
			checkErrno(t, "May of what is no rune behind the list", May(s, delta(insert(append(l[:at:at], 97)))), api.OK)
		}
	}
}

// TestSetsAndPatches has each of them alone, ahead of others and behind them, where it belongs, and where nothing of its kind does.
func TestSetsAndPatches(t *testing.T) {
	for _, keys := range rowsOfKeys() {
		s := made(t, keys)
		for _, l := range someSets() {
			checkErrno(t, "May of an insert", May(s, delta(insertText("a", l...))), setMay(keys, l))
			for _, o := range []api.Op{insertText("a", l...), {Kind: 1, N: 1, Set: l}, {Kind: 3, N: 1, Set: l}} {
				checkMay(t, s, keys, delta(o))
				checkMay(t, s, keys, delta(retain(2), o, insertText("a"), remove(2)))
				checkMay(t, s, keys, delta(insertText("ab", attr(5, num(1))), o))
			}
		}
		for _, p := range somePatches() {
			checkErrno(t, "May of a retain", May(s, delta(retain(1, p...))), patchMay(keys, p))
			for _, o := range []api.Op{retain(3, p...), {Kind: 2, Runes: []int32{97}, Patch: p}, {Kind: 3, N: 1, Patch: p}} {
				checkMay(t, s, keys, delta(o))
				checkMay(t, s, keys, delta(retain(2), o, insertText("a"), remove(2)))
				checkMay(t, s, keys, delta(o, retain(1, gone(5))))
			}
		}
	}
}

func TestSums(t *testing.T) {
	s := made(t, good())
	many := 1 << 10
	each := 1<<29/many - 1
	cases := []struct {
		what string
		x    []api.Op
		e    api.Errno
	}{
		{"a retain and a delete of just so many", delta(retain(1<<29-1), remove(1)), api.OK},
		{"a retain and a delete of one more", delta(retain(1<<29), remove(1)), api.ErrMalformed},
		{"a delete and a retain of just so many", delta(remove(1), retain(1<<29-1)), api.OK},
		{"a delete and a retain of one more", delta(remove(2), retain(1<<29-1)), api.ErrMalformed},
		{"deletes of just so many", delta(remove(1<<28), remove(1<<28)), api.OK},
		{"deletes of one more", delta(remove(1<<28), remove(1<<28), remove(1)), api.ErrMalformed},
		{"retains of just so many", delta(retain(1<<28), retain(1<<28)), api.OK},
		{"retains of one more", delta(retain(1<<28), retain(1<<28), retain(1)), api.ErrMalformed},
		{"a retain and an insert of just so many", delta(retain(1<<29-2), insertText("ab")), api.OK},
		{"a retain and an insert of one more", delta(retain(1<<29-2), insertText("abc")), api.ErrMalformed},
		{"an insert and a retain of just so many", delta(insertText("ab"), retain(1<<29-2)), api.OK},
		{"an insert and a retain of one more", delta(insertText("ab"), retain(1<<29-1)), api.ErrMalformed},
		{"a delete of so many, and inserts", delta(insertText("ab"), remove(1<<29), insertText("ab")), api.OK},
		{"a retain and a delete of so many, and inserts", delta(retain(1<<28), insertText("ab"), remove(1<<28), insertText("ab")), api.OK},
		{"much retained, deleted and inserted", delta(retain(1<<29-1), insertText("a"), remove(1)), api.OK},
		{"more deleted", delta(retain(1<<29-1), insertText("a"), remove(2)), api.ErrMalformed},
		{"more inserted", delta(retain(1<<29-1), insertText("ab"), remove(1)), api.ErrMalformed},
		{"a wrong key in what is just so much", delta(retain(1<<29-1, gone(5)), remove(1)), api.ErrKey},
		{"a wrong key in what is more", delta(retain(1<<29-1, gone(5)), remove(2)), api.ErrMalformed},
		{"many retains and deletes of just so many", slices.Repeat(delta(retain(each), remove(1)), many), api.OK},
		{"many retains and deletes of one more", append(slices.Repeat(delta(retain(each), remove(1)), many), retain(1)), api.ErrMalformed},
		{"many retains and inserts of just so many", append(slices.Repeat(delta(insertText("a"), retain(each)), many), remove(1<<10)), api.OK},
		{"many retains and inserts of one more", append(slices.Repeat(delta(insertText("a"), retain(each)), many), insertText("a")), api.ErrMalformed},
		{"many of many bits", slices.Repeat(delta(retain(1<<29)), 8), api.ErrMalformed},
		{"many of many bits, and one", append(slices.Repeat(delta(remove(1<<29)), 8), remove(1)), api.ErrMalformed},
	}
	for _, c := range cases {
		checkErrno(t, "May of "+c.what, May(s, c.x), c.e)
		checkMay(t, s, good(), c.x)
	}
}

// TestSumsThatNoIntHolds: what is more than an int holds is never wrapped.
func TestSumsThatNoIntHolds(t *testing.T) {
	s := made(t, good())
	for _, o := range []func(int) api.Op{func(n int) api.Op { return retain(n) }, remove} {
		for _, x := range [][]api.Op{
			delta(o(math.MaxInt), o(math.MaxInt), o(3)),
			delta(o(math.MaxInt), o(1)),
			delta(o(1), o(math.MaxInt)),
			delta(o(1<<62), o(1<<62), o(1<<62), o(1<<62)),
			delta(o(1<<62), o(1<<62), o(1<<62), o(1<<62), o(1)),
			slices.Repeat(delta(o(1<<55+1)), 1<<9),
			append(delta(insertText("abc")), o(math.MaxInt), o(math.MaxInt), o(5)),
		} {
			checkErrno(t, "May of great lengths", May(s, x), api.ErrMalformed)
			checkErrno(t, "Fits of great lengths", Fits(s, x, math.MaxInt, math.MaxInt), api.ErrMalformed)
			takes := sumOf(x, 1, 3)
			if !takes.IsInt64() && Takes(x) != math.MaxInt || takes.IsInt64() && Takes(x) != int(takes.Int64()) {
				t.Fatalf("%+v takes %d", x, Takes(x))
			}
			makes := sumOf(x, 1, 2)
			if !makes.IsInt64() && Makes(x) != math.MaxInt || makes.IsInt64() && Makes(x) != int(makes.Int64()) {
				t.Fatalf("%+v makes %d", x, Makes(x))
			}
		}
	}
}

// TestManyInserts of one list, as many runes as may be, and more.
func TestManyInserts(t *testing.T) {
	s := made(t, good())
	l := make([]int32, 1<<20)
	x := slices.Repeat(delta(insert(l)), 1<<9)
	checkErrno(t, "May of many inserts", May(s, x), api.OK)
	checkMuch(t, x, 0, 1<<29)
	longer := append(slices.Clone(x), insertText("a"))
	checkErrno(t, "May of many inserts and one more", May(s, longer), api.ErrMalformed)
	checkMuch(t, longer, 0, 1<<29+1)
	checkErrno(t, "May of a retain and many inserts", May(s, append(delta(retain(1)), x...)), api.ErrMalformed)
	greater := slices.Repeat(x, 1<<5)
	checkErrno(t, "May of more inserts than 32 bits hold", May(s, greater), api.ErrMalformed)
	checkMuch(t, greater, 0, 1<<34)
}

// TestWhichErrorIsFirst has all short rows of ops of which nothing, a key, or the form is wrong.
func TestWhichErrorIsFirst(t *testing.T) {
	s := made(t, good())
	for _, x := range deltasOf(someOps(), 3) {
		checkMay(t, s, good(), x)
	}
	wrongKey, wrongSet := retain(1, gone(5)), insertText("a", attr(1, num(1)))
	for _, o := range []api.Op{{}, {Kind: 4, N: 1}, retain(0), insert(nil), remove(-1), insert([]int32{-1}), insertText("a", attr(2, num(1)), attr(1, flag(true))), retain(1, gone(2), gone(2))} {
		for _, wrong := range []api.Op{wrongKey, wrongSet} {
			checkErrno(t, "a key, then the form", May(s, delta(wrong, o)), api.ErrMalformed)
			checkErrno(t, "the form, then a key", May(s, delta(o, wrong)), api.ErrMalformed)
			checkErrno(t, "a key, much that may be, then the form", May(s, append(append(delta(wrong), slices.Repeat(delta(retain(1), insertText("a")), 500)...), o)), api.ErrMalformed)
		}
	}
	checkErrno(t, "a key, then what may be", May(s, delta(wrongKey, retain(1), insertText("a"), remove(1))), api.ErrKey)
	checkErrno(t, "what may be, then a key", May(s, delta(retain(1), insertText("a"), remove(1), wrongSet)), api.ErrKey)
}

// TestOneOfMany has one op that is wrong at each of many places.
func TestOneOfMany(t *testing.T) {
	s := made(t, good())
	of := delta(retain(1, set(1, flag(true))), insertText("ab\n"), remove(2), insertText("c", attr(2, num(1))))
	for at := 0; at <= 200; at++ {
		x := slices.Repeat(of, 50)
		checkErrno(t, "many ops", May(s, x), api.OK)
		checkErrno(t, "a wrong key among many", May(s, slices.Insert(slices.Clone(x), at, retain(1, gone(5)))), api.ErrKey)
		checkErrno(t, "no kind among many", May(s, slices.Insert(slices.Clone(x), at, api.Op{})), api.ErrMalformed)
		checkErrno(t, "what is no rune among many", May(s, slices.Insert(slices.Clone(x), at, insert([]int32{97, -1}))), api.ErrMalformed)
	}
}

func TestTakesAndMakes(t *testing.T) {
	cases := []struct {
		x            []api.Op
		takes, makes int
	}{
		{delta(retain(3)), 3, 3},
		{delta(insertText("ab")), 0, 2},
		{delta(remove(5)), 5, 0},
		{delta(retain(3, gone(1)), insertText("ab", attr(1, flag(true))), remove(5)), 8, 5},
		{delta(insertText("a\nb"), insertText("\n")), 0, 4},
		{delta(remove(1), remove(2), remove(3)), 6, 0},
		{delta(retain(1), remove(1), retain(1), insertText("\u00e4\U0010ffff")), 3, 4},
		{delta(retain(1<<28), remove(1<<28), insertText("a")), 1 << 29, 1<<28 + 1},
		{delta(retain(1 << 29)), 1 << 29, 1 << 29},
	}
	for _, c := range cases {
		checkMuch(t, c.x, c.takes, c.makes)
	}
	for _, x := range deltasOf(delta(retain(2), retain(1, gone(1)), insertText("a"), insertText("bcd"), remove(1), remove(4)), 5) {
		checkMuch(t, x, int(sumOf(x, 1, 3).Int64()), int(sumOf(x, 1, 2).Int64()))
	}
}

// TestMuchOfWhatMayNotBe: what is answered of a delta that may not be is free, but the calls end. Here ops of no kind, and lengths below 0, count as nothing, fields of other kinds not at all, and no sum is wrapped.
func TestMuchOfWhatMayNotBe(t *testing.T) {
	checkMuch(t, delta(api.Op{N: 3, Runes: []int32{97}}, api.Op{Kind: 4, N: 3, Runes: []int32{97}}, api.Op{Kind: 255, N: 1}), 0, 0)
	checkMuch(t, delta(retain(4), retain(-3), remove(2), remove(math.MinInt), insertText("a")), 6, 5)
	checkMuch(t, delta(remove(-1), retain(math.MaxInt), retain(-1), remove(math.MaxInt)), math.MaxInt, math.MaxInt)
	checkMuch(t, delta(api.Op{Kind: 1, N: 2, Runes: []int32{97}}, api.Op{Kind: 2, N: 9, Runes: []int32{97}}, api.Op{Kind: 3, N: 5, Runes: []int32{97}}), 7, 3)
	for _, n := range ints() {
		for _, m := range ints() {
			for _, x := range [][]api.Op{delta(retain(n), remove(m), retain(n)), delta(remove(n), insertText("a"), retain(m)), delta(retain(m), api.Op{Kind: 2, N: n}, api.Op{Kind: uint8(n), N: m})} {
				if Takes(x) < 0 || Makes(x) < 0 {
					t.Fatalf("%+v takes %d and makes %d", x, Takes(x), Makes(x))
				}
			}
		}
	}
}

// P15.2

func TestInPlaceInWords(t *testing.T) {
	s := made(t, good())
	inline, other, block, unknown := attr(1, flag(true)), attr(4, text("a")), attr(11, num(1)), attr(5, num(1))
	cases := []struct {
		what string
		x    []api.Op
		is   bool
	}{
		{"nothing", nil, true},
		{"no insert", delta(retain(1, gone(1)), remove(1)), true},
		{"no set", delta(insertText("a\nb")), true},
		{"an empty set", delta(insert([]int32{97, 10}, []api.Attr{}...)), true},
		{"inline keys and no newline", delta(insertText("ab", inline, other)), true},
		{"inline keys and a newline", delta(insertText("a\nb", inline, other)), false},
		{"inline keys and a newline alone", delta(insertText("\n", inline)), false},
		{"inline keys, a newline first", delta(insertText("\na", inline)), false},
		{"inline keys, a newline last", delta(insertText("a\n", inline)), false},
		{"block keys and newlines alone", delta(insertText("\n\n", block, attr(13, flag(true)))), true},
		{"block keys and another rune", delta(insertText("\na\n", block)), false},
		{"block keys, another rune first", delta(insertText("a\n", block)), false},
		{"block keys, another rune last", delta(insertText("\na", block)), false},
		{"block keys and no newline", delta(insertText("a", block)), false},
		{"both, and no newline", delta(insertText("a", inline, block)), false},
		{"both, and newlines alone", delta(insertText("\n", inline, block)), false},
		{"both, and both runes", delta(insertText("a\n", inline, block)), false},
		{"a key that the schema has not", delta(insertText("a", unknown)), false},
		{"a key that the schema has not, and newlines", delta(insertText("\n", unknown)), false},
		{"such a key behind inline ones", delta(insertText("a", inline, unknown)), false},
		{"such a key ahead of block ones", delta(insertText("\n", unknown, block)), false},
		{"several inserts", delta(insertText("a", inline), retain(1), insertText("\n", block), insertText("b\n")), true},
		{"several inserts, the first not", delta(insertText("\n", inline), insertText("\n", block), insertText("a")), false},
		{"several inserts, one between not", delta(insertText("a", inline), insertText("a", block), insertText("a")), false},
		{"several inserts, the last not", delta(insertText("a", inline), remove(1), insertText("\n", inline)), false},
	}
	for _, c := range cases {
		if InPlace(s, c.x) != c.is {
			t.Errorf("InPlace of %s: %v", c.what, !c.is)
		}
		checkInPlace(t, s, good(), c.x)
	}
}

// TestInPlaceOfAllShortOnes has all sets of some keys, by whatever order of these, beside all short rows of runes.
func TestInPlaceOfAllShortOnes(t *testing.T) {
	rows := [][]int32{nil, {}}
	for from := 0; len(rows) < 120; from++ {
		for _, r := range []int32{97, 10, 266} {
			rows = append(rows, append(slices.Clone(rows[from]), r))
		}
	}
	of := []api.Attr{attr(1, flag(true)), attr(3, value.Float(1)), attr(5, num(1)), attr(11, num(1)), attr(13, flag(true)), attr(1, api.Value{})}
	sets := [][]api.Attr{nil}
	for range 3 {
		for _, l := range sets {
			for _, a := range of {
				sets = append(sets, append(slices.Clone(l), a))
			}
		}
	}
	for _, keys := range rowsOfKeys() {
		s := made(t, keys)
		for _, l := range rows {
			for _, set := range sets {
				x := delta(insert(l, set...))
				if InPlace(s, x) != inPlaceOf(keys, x) {
					t.Fatalf("InPlace of %+v: %v", x, InPlace(s, x))
				}
			}
		}
	}
}

// TestInPlaceOfEachKey has each key of a schema, those beside it, and some that are one of those in fewer bits.
func TestInPlaceOfEachKey(t *testing.T) {
	for _, keys := range rowsOfKeys() {
		s := made(t, keys)
		for _, id := range append(ints(), 10, 11, 12, 13, 14, 62, 63, 64, 65, 999, 1000, 1001, 1<<32+11) {
			for _, l := range append([][]int32{{97}, {10}, {10, 97}, {10, 10}, nil}, otherRunes(), wrongRunes()) {
				checkInPlace(t, s, keys, delta(insert(l, attr(id, num(1)))))
				checkInPlace(t, s, keys, delta(insert(l, attr(id, api.Value{}))))
			}
		}
		for _, set := range someSets() {
			for _, l := range []string{"", "a", "\n", "\n\n", "a\n"} {
				checkInPlace(t, s, keys, delta(insertText(l, set...)))
				checkInPlace(t, s, keys, delta(insertText(l, set...), insertText("a")))
				checkInPlace(t, s, keys, delta(insertText("\n"), insertText(l, set...)))
			}
		}
	}
	s := made(t, good())
	for _, r := range append(otherRunes(), wrongRunes()...) {
		if !InPlace(s, delta(insert([]int32{r, r}, attr(1, flag(true))))) || InPlace(s, delta(insert([]int32{10, r}, attr(11, num(1))))) {
			t.Errorf("%d is taken for a newline", r)
		}
	}
}

// TestInPlaceIsSaidOfInserts: whatever else an op of another kind has, it is no insert.
func TestInPlaceIsSaidOfInserts(t *testing.T) {
	s := made(t, good())
	for kind := range 256 {
		o := api.Op{Kind: uint8(kind), N: 1, Runes: []int32{10}, Set: []api.Attr{attr(1, flag(true))}, Patch: []api.Change{gone(5)}}
		if InPlace(s, delta(o)) != (kind != 2) || InPlace(s, delta(retain(1), o, remove(1))) != (kind != 2) {
			t.Errorf("InPlace of kind %d", kind)
		}
	}
}

func TestFitsInWords(t *testing.T) {
	s := made(t, good())
	cases := []struct {
		what    string
		x       []api.Op
		n, most int
		e       api.Errno
	}{
		{"nothing on one cell", nil, 1, 1, api.OK},
		{"nothing on no cell", nil, 0, 1, api.ErrRange},
		{"nothing on no cell, at most none", nil, 0, 0, api.ErrRange},
		{"nothing on fewer than no cells", nil, -1, 1, api.ErrRange},
		{"nothing on more cells than most", nil, 2, 1, api.ErrRange},
		{"nothing, at most none", nil, 1, 0, api.ErrRange},
		{"nothing on the least and the greatest number of cells", nil, math.MinInt, math.MaxInt, api.ErrRange},
		{"nothing on the greatest number of cells", nil, math.MaxInt, math.MaxInt, api.OK},
		{"nothing, with the least most", nil, 1, math.MinInt, api.ErrRange},
		{"all of one cell retained", delta(retain(1)), 1, 1, api.OK},
		{"more than one cell retained", delta(retain(2)), 1, 9, api.ErrRange},
		{"less than all retained", delta(retain(2)), 3, 3, api.OK},
		{"more than all deleted", delta(remove(4)), 3, 9, api.ErrRange},
		{"the one cell deleted", delta(remove(1)), 1, 1, api.ErrFinal},
		{"the last cell deleted", delta(retain(2), remove(1)), 3, 9, api.ErrFinal},
		{"the last two cells deleted", delta(retain(1), remove(2)), 3, 9, api.ErrFinal},
		{"the last cell deleted alone, behind another delete", delta(remove(2), remove(1)), 3, 9, api.ErrFinal},
		{"the last but one deleted", delta(retain(1), remove(1)), 3, 3, api.OK},
		{"the last but one deleted, the last retained", delta(retain(1), remove(1), retain(1)), 3, 3, api.OK},
		{"all but the last deleted", delta(remove(2)), 3, 3, api.OK},
		{"an insert just ahead of the last cell", delta(retain(2), insertText("a")), 3, 4, api.OK},
		{"an insert just ahead of the last cell, that retained", delta(retain(2), insertText("a"), retain(1)), 3, 4, api.OK},
		{"an insert behind the last cell", delta(retain(3), insertText("a")), 3, 4, api.ErrFinal},
		{"an insert behind the one cell", delta(retain(1), insertText("a")), 1, 4, api.ErrFinal},
		{"an insert behind a delete of the last cell", delta(retain(2), remove(1), insertText("a")), 3, 4, api.ErrFinal},
		{"an insert ahead of a delete of the last cell", delta(retain(2), insertText("\n"), remove(1)), 3, 4, api.ErrFinal},
		{"an insert behind a delete", delta(remove(2), insertText("a")), 3, 3, api.OK},
		{"an insert ahead of a delete", delta(insertText("a"), remove(2)), 3, 3, api.OK},
		{"inserts ahead of the last cell and behind it", delta(retain(2), insertText("a"), retain(1), insertText("b")), 3, 9, api.ErrFinal},
		{"an insert of a newline behind the last cell", delta(retain(3), insertText("\n")), 3, 9, api.ErrFinal},
		{"what fits just", delta(insertText("ab")), 3, 5, api.OK},
		{"what is too long by one", delta(insertText("ab")), 3, 4, api.ErrTooLong},
		{"what fits just, where something goes", delta(remove(1), insertText("ab")), 3, 4, api.OK},
		{"what is too long by one, where something goes", delta(remove(1), insertText("abc")), 3, 4, api.ErrTooLong},
		{"what fits just, where all is retained", delta(retain(1), insertText("a"), retain(2)), 3, 4, api.OK},
		{"what is too long by one, where all is retained", delta(retain(1), insertText("ab"), retain(2)), 3, 4, api.ErrTooLong},
		{"as many as were, and no more", delta(insertText("ab"), remove(2)), 3, 3, api.OK},
		{"one more than were, and no more", delta(insertText("abc"), remove(2)), 3, 3, api.ErrTooLong},
		{"as many as may be", delta(insertText("a"), remove(1)), 1 << 29, 1 << 29, api.OK},
		{"one more than may be", delta(insertText("a")), 1 << 29, 1 << 29, api.ErrTooLong},
		{"the last of as many as may be deleted", delta(remove(1 << 29)), 1 << 29, 1 << 29, api.ErrFinal},
		{"all but the last of them deleted", delta(remove(1<<29 - 1)), 1 << 29, 1 << 29, api.OK},
		{"all of them retained", delta(retain(1 << 29)), 1 << 29, 1 << 29, api.OK},
		{"on the greatest number of cells as many", delta(insertText("a"), remove(1)), math.MaxInt, math.MaxInt, api.OK},
		{"on the greatest number of cells one more", delta(insertText("a")), math.MaxInt, math.MaxInt, api.ErrTooLong},
		{"on one less one more", delta(insertText("a")), math.MaxInt - 1, math.MaxInt, api.OK},
		{"on one less two more", delta(retain(1), insertText("ab")), math.MaxInt - 1, math.MaxInt, api.ErrTooLong},
		{"on the greatest number of cells much", delta(retain(1<<29-1), insertText("a"), remove(1)), math.MaxInt, math.MaxInt, api.OK},
		{"out of place", delta(insertText("a", attr(11, num(1)))), 1, 9, api.ErrScope},
		{"in place", delta(insertText("\n", attr(11, num(1)))), 1, 9, api.OK},
		{"a patch of keys of both parts", delta(retain(1, gone(1), gone(11))), 1, 9, api.OK},
	}
	for _, c := range cases {
		checkErrno(t, "Fits of "+c.what, Fits(s, c.x, c.n, c.most), c.e)
		checkFits(t, s, good(), c.x, c.n, c.most)
	}
}

// TestFitsOfAllShortDeltas has them on few cells, one by one; what fits fits a greater most.
func TestFitsOfAllShortDeltas(t *testing.T) {
	s := made(t, good())
	of := delta(retain(1), retain(2, gone(1)), remove(1), remove(2), insertText("a"), insertText("bc", attr(1, flag(true))), insertText("\n", attr(11, num(1))), insertText("\n", attr(1, flag(true))), retain(0), remove(5), insertText("a", attr(5, num(1))))
	for _, x := range deltasOf(of, 4) {
		for n := -1; n <= 6; n++ {
			before := api.ErrRange
			for most := -1; most <= 9; most++ {
				want := fitsOneByOne(good(), x, n, most)
				e := Fits(s, x, n, most)
				if e != want || e != fitsOf(good(), x, n, most) {
					t.Fatalf("Fits of %+v on %d cells, most %d: %d; want %d", x, n, most, e, want)
				}
				if before == api.OK && e != api.OK {
					t.Fatalf("%+v on %d cells fits most %d, but not %d: %d", x, n, most-1, most, e)
				}
				before = e
			}
		}
		if len(x) > 3 {
			continue
		}
		for _, n := range []int{1, 2, 3, 4, 100, 1 << 40} {
			for _, most := range []int{n, n + 1, n + 3, math.MaxInt - 1, math.MaxInt} {
				checkFits(t, s, good(), x, n, most)
			}
		}
	}
}

func TestFitsOnAllNumbers(t *testing.T) {
	s := made(t, good())
	deltas := [][]api.Op{
		nil,
		delta(retain(1)), delta(insertText("a")), delta(remove(1)),
		delta(retain(1), insertText("ab"), remove(1)),
		delta(remove(2), insertText("a")),
		delta(retain(1 << 29)), delta(remove(1 << 29)),
		delta(retain(1<<29-1), insertText("a")), delta(remove(1<<29-1), insertText("a")),
		delta(remove(1<<29), insertText("ab")),
		delta(retain(256), remove(1)),
		delta(insertText("a", attr(11, num(1))), retain(1)),
		delta(retain(0)), delta(retain(1, gone(5))),
	}
	for _, x := range deltas {
		for _, n := range ints() {
			for _, most := range append(ints(), n, n-1, n+1, n+2) {
				checkFits(t, s, good(), x, n, most)
			}
		}
	}
}

// TestWhichErrorOfFitsIsFirst has all faults with one another, in each order of the ops that have them.
func TestWhichErrorOfFitsIsFirst(t *testing.T) {
	s := made(t, good())
	faults := []struct {
		e api.Errno
		o api.Op
	}{
		{api.ErrMalformed, api.Op{}},
		{api.ErrKey, insertText("a", attr(5, num(1)))},
		{api.ErrRange, remove(7)},
		{api.ErrFinal, remove(3)},
		{api.ErrScope, insertText("\n", attr(1, flag(true)))},
		{api.ErrTooLong, insertText("abcdefghijklmnopqrst")},
	}
	for which := range 1 << len(faults) {
		want := api.OK
		var x []api.Op
		for i, f := range faults {
			if which>>i&1 == 0 {
				continue
			}
			if x = append(x, f.o); want == api.OK {
				want = f.e
			}
		}
		for _, y := range orders(x) {
			checkErrno(t, "Fits", Fits(s, y, 3, 5), want)
			checkFits(t, s, good(), y, 3, 5)
			nowhere := want
			if want != api.ErrMalformed && want != api.ErrKey {
				nowhere = api.ErrRange
			}
			checkErrno(t, "Fits on no cell", Fits(s, y, 0, 5), nowhere)
			checkErrno(t, "Fits on more than most", Fits(s, y, 6, 5), nowhere)
		}
	}
}

// orders are all orders of the ops.
func orders(x []api.Op) [][]api.Op {
	if len(x) == 0 {
		return [][]api.Op{nil}
	}
	var l [][]api.Op
	for i, o := range x {
		for _, y := range orders(slices.Delete(slices.Clone(x), i, i+1)) {
			l = append(l, append(delta(o), y...))
		}
	}
	return l
}

// TestFitsAGreaterMost: what fits a document fits a longer most.
func TestFitsAGreaterMost(t *testing.T) {
	s := made(t, good())
	r := rule(5)
	fits := 0
	for range 3000 {
		x := r.delta(good(), 5, 20)
		n := Takes(x) + 1 + r.upTo(3)
		for most := n; most < n+12; most++ {
			if Fits(s, x, n, most) != api.OK {
				continue
			}
			fits++
			for _, more := range []int{most + 1, most + 2, 2 * most, most + 1<<29, 1 << 40, math.MaxInt} {
				checkErrno(t, "Fits a greater most", Fits(s, x, n, more), api.OK)
			}
		}
	}
	if fits < 5000 {
		t.Errorf("%d that fit", fits)
	}
}

// P15.3

// unlike are ops no two of which are the same; many of them differ in one field alone from another one.
func unlike() []api.Op {
	l := []api.Op{
		{}, {Kind: 1}, {Kind: 2}, {Kind: 3}, {Kind: 4}, {Kind: 255},
		{N: 1}, {Kind: 1, N: 1}, {Kind: 1, N: 2}, {Kind: 1, N: 1 + 1<<32}, {Kind: 1, N: -1}, {Kind: 2, N: 1}, {Kind: 3, N: 1},
		{Kind: 3, N: math.MinInt}, {Kind: 3, N: math.MaxInt},
	}
	runes := [][]int32{{0}, {97}, {98}, {97, 97}, {97, 98}, {98, 97}, {97, 98, 99}, {97, 98, 100}, {-1}, {97 + 1<<16}, {10}, {0, 0}}
	attrs := [][]api.Attr{
		{attr(1, flag(true))}, {attr(1, flag(false))}, {attr(2, flag(true))}, {attr(1, num(1))}, {attr(1, text("a"))}, {attr(1, text("b"))}, {attr(1, text(""))},
		{attr(1, value.Float(0))}, {attr(1, value.Float(math.Copysign(0, -1)))}, {attr(1, value.Float(math.NaN()))}, {attr(1, api.Value{Kind: 3, F: api.NaN + 1})},
		{attr(1, flag(true)), attr(2, num(1))}, {attr(2, num(1)), attr(1, flag(true))}, {attr(1, flag(true)), attr(2, num(2))}, {attr(1, flag(true)), attr(1, flag(true))},
		{attr(0, api.Value{})}, {attr(1, api.Value{})}, {attr(-1, api.Value{})}, {attr(1, api.Value{Kind: 1, N: 1, F: 1})}, {attr(1, api.Value{Kind: 1, N: 1, S: "a"})},
	}
	for _, runes := range runes {
		l = append(l, api.Op{Kind: 2, Runes: runes}, api.Op{Kind: 1, N: 1, Runes: runes})
	}
	for _, set := range attrs {
		l = append(l, api.Op{Kind: 2, Runes: []int32{97}, Set: set}, api.Op{Kind: 1, N: 1, Set: set})
		var p []api.Change
		for _, a := range set {
			p = append(p, api.Change{Key: a.Key, Value: a.Value})
		}
		l = append(l, api.Op{Kind: 1, N: 1, Patch: p}, api.Op{Kind: 2, Runes: []int32{97}, Patch: p})
		q := slices.Clone(p)
		q[0].Gone = true
		l = append(l, api.Op{Kind: 1, N: 1, Patch: q})
	}
	return append(l, retain(1, gone(1), gone(2)), retain(1, gone(1), gone(2), gone(3)), retain(1, gone(2), gone(1)), retain(2, gone(1)))
}

// TestSameOfEachTwo holds each op against each other one, alone, behind others, and ahead of others.
func TestSameOfEachTwo(t *testing.T) {
	l, m := unlike(), unlike()
	for i := range l {
		for j := range m {
			checkSame(t, l[i:i+1], m[j:j+1], i == j)
			checkSame(t, delta(retain(1), l[i]), delta(retain(1), m[j]), i == j)
			checkSame(t, delta(l[i], insertText("a")), delta(m[j], insertText("a")), i == j)
		}
	}
}

func TestSameOfRows(t *testing.T) {
	of := delta(retain(1), insertText("a"), insertText("a", attr(1, flag(true))), remove(1))
	l, m := deltasOf(of, 3), deltasOf(of, 3)
	for i := range l {
		for j := range m {
			checkSame(t, l[i], m[j], i == j)
		}
	}
	long := slices.Repeat(of, 300)
	checkSame(t, long, slices.Clone(long), true)
	checkSame(t, long, long[1:], false)
	checkSame(t, long, long[:1199], false)
	for _, at := range []int{0, 1, 2, 3, 600, 1197, 1198, 1199} {
		other := slices.Clone(long)
		other[at] = remove(2)
		checkSame(t, long, other, false)
		other = slices.Clone(long)
		other[at], other[(at+1)%1200] = other[(at+1)%1200], other[at]
		checkSame(t, long, other, false)
	}
	runes := slices.Repeat([]int32{97, 10, 98}, 5000)
	other := slices.Clone(runes)
	checkSame(t, delta(insert(runes)), delta(insert(other)), true)
	other[14999]++
	checkSame(t, delta(insert(runes)), delta(insert(other)), false)
}

// TestNoListAndAnEmptyOne are one, of the ops and of each field.
func TestNoListAndAnEmptyOne(t *testing.T) {
	none := [][]api.Op{nil, {}, make([]api.Op, 3)[:0]}
	for _, x := range none {
		for _, y := range none {
			checkSame(t, x, y, true)
		}
		checkSame(t, x, delta(api.Op{}), false)
		checkAlike(t, "Copy of nothing", Copy(x), nil)
	}
	for _, kind := range []uint8{0, 1, 2, 3} {
		for i := range 64 {
			o, p := api.Op{Kind: kind}, api.Op{Kind: kind}
			lists := [][]int32{nil, {}, make([]int32, 2)[:0], {}}
			o.Runes, p.Runes = lists[i&1], lists[i>>1&1+1]
			sets := [][]api.Attr{nil, {}, make([]api.Attr, 2)[:0]}
			o.Set, p.Set = sets[i>>2&1], sets[i>>3&1+1]
			patches := [][]api.Change{nil, {}, make([]api.Change, 2)[:0]}
			o.Patch, p.Patch = patches[i>>4&1], patches[i>>5&1+1]
			checkSame(t, delta(o), delta(p), true)
			checkAlike(t, "Copy of empty lists", Copy(delta(o)), delta(p))
		}
	}
}

func scrawl(x []api.Op) {
	x = x[:cap(x)]
	for i := range x {
		scrawlLists(x[i])
		x[i] = api.Op{Kind: 77, N: 77, Runes: []int32{77}}
	}
}

func scrawlLists(o api.Op) {
	runes, set, p := o.Runes[:cap(o.Runes)], o.Set[:cap(o.Set)], o.Patch[:cap(o.Patch)]
	for i := range runes {
		runes[i] = 77
	}
	for i := range set {
		set[i] = attr(77, num(77))
	}
	for i := range p {
		p[i] = api.Change{Key: 77, Gone: true, Value: num(77)}
	}
}

// roomy is the same delta, each list of which has others behind it in its memory.
func roomy(x []api.Op) []api.Op {
	l := make([]api.Op, 0, len(x)+2)
	for _, o := range x {
		o.Runes = slices.Concat(o.Runes, []int32{120, 10, 0xd800})[:len(o.Runes)]
		o.Set = slices.Concat(o.Set, []api.Attr{attr(3, value.Float(1)), attr(1, flag(true))})[:len(o.Set)]
		o.Patch = slices.Concat(o.Patch, []api.Change{gone(3), set(1, flag(true))})[:len(o.Patch)]
		l = append(l, o)
	}
	return append(l, retain(9), insertText("behind"))[:len(x)]
}

// whole are the ops with all that stands behind them, and behind their lists, in memory of its own.
func whole(x []api.Op) []api.Op {
	var l []api.Op
	for _, o := range x[:cap(x)] {
		o.Runes = slices.Clone(o.Runes[:cap(o.Runes)])
		o.Set = slices.Clone(o.Set[:cap(o.Set)])
		o.Patch = slices.Clone(o.Patch[:cap(o.Patch)])
		l = append(l, o)
	}
	return l
}

// deltas are such as may be and such as may not.
func deltas() [][]api.Op {
	var falling []api.Op
	for _, set := range someSets() {
		falling = append(falling, insertText("a\n", set...))
	}
	for _, p := range somePatches() {
		falling = append(falling, retain(2, p...))
	}
	return [][]api.Op{
		nil,
		delta(retain(2, gone(1), set(2, num(3))), insertText("ab\n", attr(1, flag(true)), attr(4, text("a"))), remove(2), insertText("\n", attr(11, num(1)), attr(13, flag(true)))),
		delta(insertText("a"), insertText("a"), retain(1), retain(1), remove(1), remove(1)),
		delta(retain(3), remove(2), insertText("ab", attr(1, flag(true)))),
		someOps(),
		unlike(),
		falling,
	}
}

// TestCopyGoesItsOwnWay writes over what was copied, and over the copy, and behind both.
func TestCopyGoesItsOwnWay(t *testing.T) {
	for _, want := range deltas() {
		x := roomy(want)
		all := whole(x)
		y := Copy(x)
		checkAlike(t, "Copy", y, want)
		checkSame(t, y, x, true)
		scrawl(y)
		checkAlike(t, "what was copied, behind writing over the copy", x, want)
		checkAlike(t, "what was copied, and what stands behind it", whole(x), all)
		z := Copy(x)
		scrawl(x)
		checkAlike(t, "the copy, behind writing over what was copied", z, want)
		checkAlike(t, "a copy of the copy", Copy(z), want)
	}
}

// TestCopyOneByOne: no two lists of a copy share memory, whatever those shared that were copied.
func TestCopyOneByOne(t *testing.T) {
	runes, set, p := []int32{97, 98, 99, 100}, setOfAll(1, 4), []api.Change{gone(1), gone(2), gone(3), gone(4)}
	one := api.Op{Kind: 1, N: 3, Runes: runes, Set: set, Patch: p}
	shared := delta(one, one, api.Op{Kind: 2, Runes: runes[:2], Set: set[:2], Patch: p[:2]}, api.Op{Kind: 2, Runes: runes[2:], Set: set[2:], Patch: p[2:]}, api.Op{Kind: 3, Runes: runes[:0], Set: set[:0], Patch: p[:0]})
	for _, x := range append(deltas(), shared) {
		want := roomy(x)
		for i := 0; i < len(x); i += 1 + len(x)/50 {
			y := Copy(x)
			scrawlLists(y[i])
			checkAlike(t, "the ops ahead", y[:i], x[:i])
			checkAlike(t, "the ops behind", y[i+1:], x[i+1:])
			y[i] = remove(77)
			checkAlike(t, "what was copied", x, want)
			checkAlike(t, "another copy", Copy(x), want)
		}
	}
	checkAlike(t, "what was copied", shared[:1], delta(one))
}

// What holds of all.

// TestNoSchema: a schema that is not there, and a zero one, have no keys.
func TestNoSchema(t *testing.T) {
	for _, s := range []*schema.Schema{nil, {}, made(t, nil)} {
		for _, x := range deltas() {
			for i := range len(x) + 1 {
				checkMay(t, s, nil, x[:i])
				checkInPlace(t, s, nil, x[i:])
			}
			for _, o := range x {
				checkMay(t, s, nil, delta(o))
				checkInPlace(t, s, nil, delta(o))
				checkFits(t, s, nil, delta(o), 3, 5)
				checkFits(t, s, nil, delta(o), math.MaxInt, math.MaxInt)
				checkFits(t, s, nil, delta(o), 0, 5)
			}
		}
		checkErrno(t, "May without keys", May(s, delta(retain(1, gone(1)))), api.ErrKey)
		checkErrno(t, "May without keys", May(s, delta(insertText("a", attr(1, flag(true))))), api.ErrKey)
		checkErrno(t, "May without keys", May(s, delta(retain(1, gone(2), gone(1)))), api.ErrMalformed)
		checkErrno(t, "Fits without keys", Fits(s, delta(retain(2), insertText("a\n"), remove(1)), 4, 5), api.OK)
	}
}

type answers struct {
	may, fits, tight, none api.Errno
	takes, makes           int
	inPlace, same          bool
	copy                   []api.Op
}

func all(s *schema.Schema, x, y []api.Op) answers {
	return answers{May(s, x), Fits(s, x, 9, 20), Fits(s, x, 9, 9), Fits(s, x, 0, 9), Takes(x), Makes(x), InPlace(s, x), Same(x, y), Copy(x)}
}

func checkAnswers(t *testing.T, a, want answers) {
	t.Helper()
	checkAlike(t, "what is answered", a.copy, want.copy)
	if a.may != want.may || a.fits != want.fits || a.tight != want.tight || a.none != want.none || a.takes != want.takes || a.makes != want.makes || a.inPlace != want.inPlace || a.same != want.same {
		t.Fatalf("what is answered: %+v; want %+v", a, want)
	}
}

// TestHandedInIsNotWrittenTo asks of the lists, and of what stands behind them in their memory.
func TestHandedInIsNotWrittenTo(t *testing.T) {
	for _, keys := range rowsOfKeys() {
		s := made(t, keys)
		for _, d := range deltas() {
			for _, f := range deltas() {
				x, y := roomy(d), roomy(f)
				wantX, wantY := whole(x), whole(y)
				all(s, x, y)
				all(s, x[:len(x)/2], y)
				checkAlike(t, "what was handed in", whole(x), wantX)
				checkAlike(t, "what was handed in", whole(y), wantY)
				if !slices.Equal(s.Keys(), keys) {
					t.Fatalf("the schema's keys: %+v", s.Keys())
				}
			}
		}
	}
}

// TestAskedAgain: nothing is kept from call to call, and what stands behind a list is none of it.
func TestAskedAgain(t *testing.T) {
	for _, keys := range rowsOfKeys() {
		s := made(t, keys)
		for _, x := range deltas() {
			first := all(s, x, x)
			for _, y := range deltas() {
				all(s, y, x)
				all(nil, roomy(y), y)
				checkAnswers(t, all(s, x, Copy(x)), first)
				checkAnswers(t, all(made(t, keys), roomy(x), roomy(x)), first)
			}
		}
	}
}

// TestListsThatDoNotRise: with sets and patches whose keys do not rise, and that are long, all calls end, and none panics.
func TestListsThatDoNotRise(t *testing.T) {
	long := slices.Repeat([]api.Attr{attr(1000, num(1)), attr(11, num(3)), attr(1, flag(true)), attr(math.MinInt, api.Value{})}, 4000)
	changes := slices.Repeat([]api.Change{gone(1000), set(11, num(3)), gone(1), {Key: math.MinInt, Gone: true, Value: num(1)}}, 4000)
	for _, s := range []*schema.Schema{made(t, good()), made(t, full()), {}, nil} {
		for _, x := range [][]api.Op{
			delta(insertText("a", long...)),
			delta(insertText("\n", long...), retain(1, changes...)),
			delta(retain(1, changes...), remove(1)),
			slices.Repeat(delta(insertText("a", long[:70]...), retain(1, changes[:70]...)), 200),
		} {
			a := all(s, x, x)
			if a.may != api.ErrMalformed || a.fits != api.ErrMalformed || a.none != api.ErrMalformed || !a.same {
				t.Fatalf("of %d ops: %+v", len(x), a)
			}
			checkAlike(t, "Copy", a.copy, x)
		}
	}
}

// TestLongRowsOfCalls asks by a rule of many deltas, alone and behind one another.
func TestLongRowsOfCalls(t *testing.T) {
	r := rule(15)
	count := map[api.Errno]int{}
	for _, keys := range rowsOfKeys() {
		s := made(t, keys)
		var before []api.Op
		for range 12000 {
			x := r.delta(keys, 1+r.upTo(8), 5+r.upTo(60))
			checkMay(t, s, keys, x)
			checkInPlace(t, s, keys, x)
			n := Takes(x) + r.upTo(6) - 2
			most := n + r.upTo(8) - 1
			checkFits(t, s, keys, x, n, most)
			if n < 1000 {
				checkErrno(t, "Fits", Fits(s, x, n, most), fitsOneByOne(keys, x, n, most))
			}
			count[Fits(s, x, n, most)]++
			checkSame(t, x, before, alike(x, before))
			y := Copy(x)
			checkAlike(t, "Copy", y, x)
			checkSame(t, x, y, true)
			before = y
		}
	}
	for _, e := range []api.Errno{api.OK, api.ErrMalformed, api.ErrKey, api.ErrRange, api.ErrFinal, api.ErrScope, api.ErrTooLong} {
		if count[e] < 300 {
			t.Errorf("told so often: %v", count)
			break
		}
	}
}

// TestLongDeltas has rows of many ops on many cells.
func TestLongDeltas(t *testing.T) {
	r := rule(51)
	count := map[api.Errno]int{}
	for _, keys := range rowsOfKeys() {
		s := made(t, keys)
		for range 60 {
			x := r.delta(keys, 600, 100000)
			x = slices.DeleteFunc(x, func(o api.Op) bool { return !inPlaceOf(keys, delta(o)) || opMalformed(keys, o) })
			checkMay(t, s, keys, x)
			for _, n := range []int{Takes(x) - 1, Takes(x), Takes(x) + 1, Takes(x) + 900} {
				least := n - Takes(x) + Makes(x)
				for _, most := range []int{least - 1, least, least + 1, n} {
					checkFits(t, s, keys, x, n, most)
					checkErrno(t, "Fits", Fits(s, x, n, most), fitsOneByOne(keys, x, n, most))
					count[Fits(s, x, n, most)]++
				}
			}
		}
	}
	if count[api.OK] < 200 || count[api.ErrTooLong] < 100 || count[api.ErrRange] < 100 || count[api.ErrFinal] < 100 {
		t.Errorf("told so often: %v", count)
	}
}
