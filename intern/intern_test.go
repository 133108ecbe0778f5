package intern

import (
	"fmt"
	"math"
	"slices"
	"strings"
	"testing"
	"unsafe"

	"rubric/api"
	"rubric/attrs"
	"rubric/schema"
	"rubric/value"
)

// The model: the chapter's words, said of a plain list of sets that is gone over from end to end.

type entry struct {
	id, held int
	set      []api.Attr
}

type model struct {
	s       *schema.Schema
	entries []entry
	freed   []int // that were not given since, in the order in which they were freed
	had     map[int]bool
}

func newModel(s *schema.Schema) *model {
	return &model{s: s, entries: []entry{{}}, had: map[int]bool{0: true}}
}

func (m *model) place(is func(entry) bool) int { return slices.IndexFunc(m.entries, is) }

func (m *model) of(id int) int { return m.place(func(n entry) bool { return n.id == id }) }

func (m *model) add(set []api.Attr) (int, api.Errno) {
	if e := attrs.May(m.s, set); e != api.OK {
		return 0, e
	}
	i := m.place(func(n entry) bool { return alike(n.set, set) })
	if i < 0 {
		i = len(m.entries)
		m.entries = append(m.entries, entry{id: m.given(), set: slices.Clone(set)})
	}
	m.entries[i].held++
	return m.entries[i].id, api.OK
}

func (m *model) given() int {
	if n := len(m.freed); n > 0 {
		id := m.freed[n-1]
		m.freed = slices.Delete(m.freed, n-1, n)
		return id
	}
	id := 1
	for m.had[id] {
		id++
	}
	m.had[id] = true
	return id
}

func (m *model) hold(id int) api.Errno {
	i := m.of(id)
	if i < 0 {
		return api.ErrRange
	}
	m.entries[i].held++
	return api.OK
}

func (m *model) free(id int) api.Errno {
	i := m.of(id)
	if i < 0 {
		return api.ErrRange
	}
	m.entries[i].held--
	if id == 0 {
		m.entries[i].held = max(m.entries[i].held, 0)
	} else if m.entries[i].held == 0 {
		m.entries = slices.Delete(m.entries, i, i+1)
		m.freed = append(m.freed, id)
	}
	return api.OK
}

func (m *model) ids() []int {
	var l []int
	for _, n := range m.entries {
		l = append(l, n.id)
	}
	slices.Sort(l)
	return l
}

// alike takes no list that is nil for another one than an empty one.
func alike(a, b []api.Attr) bool {
	if len(a) != len(b) {
		return false
	}
	for i := range a {
		v, w := a[i].Value, b[i].Value
		if a[i].Key != b[i].Key || v.Kind != w.Kind || v.N != w.N || v.F != w.F || v.S != w.S {
			return false
		}
	}
	return true
}

// The rows of the tests.

// keys are inline and block keys, three of each kind.
func keys() []api.Key {
	return []api.Key{
		{ID: 1, Kind: 1, After: true}, {ID: 2, Kind: 2}, {ID: 3, Kind: 3}, {ID: 4, Kind: 4},
		{ID: 11, Kind: 1}, {ID: 12, Kind: 2, Before: true}, {ID: 13, Kind: 3}, {ID: 14, Kind: 4},
		{ID: 21, Block: true, Kind: 1}, {ID: 22, Block: true, Kind: 2, Group: 1}, {ID: 23, Block: true, Kind: 3}, {ID: 1000, Block: true, Kind: 4, Group: 1},
	}
}

func full() []api.Key {
	var l []api.Key
	for i := range 64 {
		l = append(l, api.Key{ID: 1 + i*15 + i*6/7, Kind: uint8(i%4 + 1), Block: i%3 == 1})
	}
	return l
}

func flag(n int64) api.Value   { return api.Value{Kind: 1, N: n} }
func whole(n int64) api.Value  { return api.Value{Kind: 2, N: n} }
func float(f uint64) api.Value { return api.Value{Kind: 3, F: f} }
func text(s string) api.Value  { return api.Value{Kind: 4, S: s} }

func valuesOf(kind uint8) []api.Value {
	switch kind {
	case 1:
		return []api.Value{flag(0), flag(1)}
	case 2:
		return []api.Value{whole(0), whole(1), whole(-1), whole(2), whole(10), whole(11), whole(256), whole(1 << 32), whole(1<<32 + 1),
			whole(1 << 62), whole(math.MaxInt64), whole(math.MinInt64), whole(int64(math.Float64bits(1)))}
	case 3:
		return []api.Value{float(0), float(1 << 63), float(1), float(1<<63 | 1), float(2), float(10), float(math.Float64bits(1)), float(math.Float64bits(-1)),
			float(math.Float64bits(1) + 1), float(math.Float64bits(math.Inf(1))), float(math.Float64bits(math.Inf(-1))), float(api.NaN)}
	}
	l := []api.Value{text(""), text(strings.Repeat("a", 64)), text(strings.Repeat("a", 63)), text(strings.Repeat("a", 63) + "b"), text(strings.Repeat("\u00e4", 32))}
	for _, s := range textsOfText() {
		l = append(l, text(s))
	}
	return l
}

// textsOfText are texts that begin, end and read as others do, and some that look like a table's own marks.
func textsOfText() []string {
	l := []string{"aa", "ab", "ba", "aab", "0", "1", "-1", "10", "01", "1 ", " 1", "1 1", "true", "NaN", "a\x00", "\x00a", "\x00\x00", "a ", " a", "a,", ",a", "a\n", "a\"", "\"\"", "\\x00", "\\", "\\\\", "\"a\"",
		"4 4 0 0 1 a", "14 4 0 0 0 ", "a14 4 0 0 1 b", "%", "%00", "nil", "\u00e9", "e\u0301", "\u00c4", "\u00e4", "\ufffd", "\uffff", "\ufeff", "\U0010ffff", "\U0001f600"}
	for r := range rune(0x100) {
		l = append(l, string(r))
	}
	slices.Sort(l)
	return slices.Compact(l)
}

func one(key int, v api.Value) []api.Attr { return []api.Attr{{Key: key, Value: v}} }

func two(key int, v api.Value, other int, w api.Value) []api.Attr {
	return []api.Attr{{Key: key, Value: v}, {Key: other, Value: w}}
}

// setOf has an attribute of each of the keys, with one of its values, which turn tells.
func setOf(keys []api.Key, turn int) []api.Attr {
	var l []api.Attr
	for i, k := range keys {
		v := valuesOf(k.Kind)
		l = append(l, api.Attr{Key: k.ID, Value: v[(i+turn)%len(v)]})
	}
	return l
}

// numbered are n sets that may be, one whole number each.
func numbered(n int) [][]api.Attr {
	var l [][]api.Attr
	for i := range n {
		l = append(l, one(2, whole(int64(i))))
	}
	return l
}

// likeOnes are sets that may be, no two of them alike, but many for one key, one value, or where it ends alone.
func likeOnes() [][]api.Attr {
	l := [][]api.Attr{nil}
	for _, k := range keys() {
		for _, v := range valuesOf(k.Kind) {
			l = append(l, one(k.ID, v))
		}
	}
	few := []string{"", "a", "aa", "ab", "b", " ", "\x00", "\x00a", "1", "11", "4", "14", "14 4 0 0 0 ", "0 0 1 a", "a14 4 0 0 1 b"}
	for _, s := range few {
		for _, u := range few {
			l = append(l, two(4, text(s), 14, text(u)), two(4, text(s), 1000, text(u)), two(14, text(s), 1000, text(u)))
		}
	}
	for _, n := range []int64{0, 1, -1, 11, 111, math.MinInt64} {
		for _, o := range []int64{0, 1, -1, 11, 111, math.MinInt64} {
			l = append(l, two(2, whole(n), 12, whole(o)), two(2, whole(n), 22, whole(o)), two(3, float(uint64(n)&math.MaxInt64>>2), 12, whole(o)))
		}
	}
	for turn := range 60 {
		l = append(l, setOf(keys(), turn))
	}
	return append(l, subsets(setOf(keys()[:8], 1))[1:]...)
}

// distinct are the sets, each once.
func distinct(sets [][]api.Attr) [][]api.Attr {
	var l [][]api.Attr
	for _, set := range sets {
		if !slices.ContainsFunc(l, func(o []api.Attr) bool { return alike(o, set) }) {
			l = append(l, set)
		}
	}
	return l
}

// subsets are all sets of some of these attributes.
func subsets(of []api.Attr) [][]api.Attr {
	var l [][]api.Attr
	for bits := range 1 << len(of) {
		var set []api.Attr
		for i, a := range of {
			if bits>>i&1 == 1 {
				set = append(set, a)
			}
		}
		l = append(l, set)
	}
	return l
}

// orders are all orders of the numbers below n.
func orders(n int) [][]int {
	if n == 0 {
		return [][]int{nil}
	}
	var l [][]int
	for _, o := range orders(n - 1) {
		for at := range n {
			l = append(l, slices.Insert(slices.Clone(o), at, n-1))
		}
	}
	return l
}

// noSets are sets that may not be one of keys(), with each error that layer 5 tells.
func noSets() [][]api.Attr {
	set := setOf(keys(), 1)
	l := [][]api.Attr{
		one(1, api.Value{}), one(0, api.Value{}), {{}}, make([]api.Attr, 65), slices.Repeat(set, 6), numberedKeys(1, 65), numberedKeys(1, 1000),
		one(1, flag(2)), one(1, flag(-1)), one(1, api.Value{Kind: 1, S: "a"}), one(2, api.Value{Kind: 2, F: 1}), one(3, float(api.NaN+1)), one(3, float(api.NaN|1<<63)), one(3, api.Value{Kind: 3, N: 1}),
		one(4, text("\xff")), one(4, text("a\xc3")), one(4, text(strings.Repeat("a", 65))), one(4, api.Value{Kind: 4, N: 1}), one(4, api.Value{Kind: 5}), one(4, api.Value{Kind: 255, S: "a"}),
		one(1, whole(1)), one(2, flag(1)), one(2, float(0)), one(3, whole(0)), one(4, whole(1)), one(2, text("1")), // each a value of another kind
		one(0, flag(1)), one(-1, flag(1)), one(5, flag(1)), one(257, flag(1)), one(999, text("a")), one(1001, text("a")), one(1<<32+1, flag(1)), one(math.MinInt, flag(1)), one(math.MaxInt, flag(1)), numberedKeys(1, 64),
	}
	for i := range set {
		for j := range i {
			falls := slices.Clone(set)
			falls[i], falls[j] = falls[j], falls[i]
			twice := slices.Clone(set)
			twice[i] = twice[j]
			l = append(l, falls, twice)
		}
		for _, a := range []api.Attr{{Key: set[i].Key}, {Key: set[i].Key, Value: text("\xff")}, {Key: set[i].Key, Value: valuesOf(set[i].Value.Kind%4 + 1)[0]}} {
			other := slices.Clone(set)
			other[i] = a
			l = append(l, other)
		}
	}
	return l
}

// numberedKeys are n attributes by rising keys, each with a whole number.
func numberedKeys(first, n int) []api.Attr {
	var l []api.Attr
	for i := range n {
		l = append(l, api.Attr{Key: first + i, Value: whole(int64(i % 2))})
	}
	return l
}

// Checks. Each test ends at its first fault: the rows are long, and what is wrong with one is wrong with many.

func made(t *testing.T, keys []api.Key) *schema.Schema {
	t.Helper()
	s, e := schema.New(keys)
	if e != api.OK {
		t.Fatalf("a schema of %+v: %d", keys, e)
	}
	return s
}

func plain(t *testing.T) *Table {
	t.Helper()
	return New(made(t, keys()))
}

func both(s *schema.Schema) (*Table, *model) { return New(s), newModel(s) }

// brief is as much of a set as a message should have.
func brief(set []api.Attr) string { return fmt.Sprintf("%.300s", fmt.Sprintf("%+v", set)) }

func checkAdd(t *testing.T, x *Table, set []api.Attr, id int) {
	t.Helper()
	if n, e := x.Add(set); n != id || e != api.OK {
		t.Fatalf("Add of %s: %d, %d; want %d, OK", brief(set), n, e, id)
	}
}

func checkErrno(t *testing.T, what string, e, want api.Errno) {
	t.Helper()
	if e != want {
		t.Fatalf("%s: %d; want %d", what, e, want)
	}
}

func checkHeld(t *testing.T, x *Table, id, times int) {
	t.Helper()
	if n := x.Held(id); n != times {
		t.Fatalf("Held of %d: %d; want %d", id, n, times)
	}
}

func checkSet(t *testing.T, x *Table, id int, want []api.Attr) {
	t.Helper()
	if set, e := x.Set(id); e != api.OK || !alike(set, want) {
		t.Fatalf("Set of %d: %s, %d; want %s, OK", id, brief(set), e, brief(want))
	}
}

func checkNone(t *testing.T, x *Table, id int) {
	t.Helper()
	if set, e := x.Set(id); e != api.ErrRange || len(set) != 0 {
		t.Fatalf("Set of %d: %v, %d; want none, ErrRange", id, set, e)
	}
	checkHeld(t, x, id, 0)
}

func checkIDs(t *testing.T, x *Table, want ...int) {
	t.Helper()
	if l := slices.Collect(x.All()); !slices.Equal(l, want) {
		t.Fatalf("All: %v; want %v", l, want)
	}
	if n := x.Len(); n != len(want) {
		t.Fatalf("Len: %d; want %d", n, len(want))
	}
}

func checkNoSuch(t *testing.T, x *Table, ids ...int) {
	t.Helper()
	for _, id := range ids {
		checkNone(t, x, id)
		checkErrno(t, fmt.Sprintf("Hold of %d", id), x.Hold(id), api.ErrRange)
		checkErrno(t, fmt.Sprintf("Free of %d", id), x.Free(id), api.ErrRange)
		checkNone(t, x, id)
	}
}

// checkSame holds all that a table tells against the model, of all ids about those that it has, too.
func checkSame(t *testing.T, x *Table, m *model) {
	t.Helper()
	checkIDs(t, x, m.ids()...)
	for id := -2; id < len(m.had)+2; id++ {
		if i := m.of(id); i >= 0 {
			checkHeld(t, x, id, m.entries[i].held)
			checkSet(t, x, id, m.entries[i].set)
		} else {
			checkNone(t, x, id)
		}
	}
}

// A step is a call that changes a table.
type step struct {
	what string
	set  []api.Attr
	id   int
}

// do takes the step on the table and on the model, and holds what both answer against each other.
func (s step) do(t *testing.T, x *Table, m *model) {
	t.Helper()
	switch s.what {
	case "Add":
		id, e := x.Add(s.set)
		if want, f := m.add(s.set); id != want || e != f {
			t.Fatalf("Add of %s: %d, %d; want %d, %d", brief(s.set), id, e, want, f)
		}
	case "Hold":
		checkErrno(t, fmt.Sprintf("Hold of %d", s.id), x.Hold(s.id), m.hold(s.id))
	case "Free":
		checkErrno(t, fmt.Sprintf("Free of %d", s.id), x.Free(s.id), m.free(s.id))
	}
}

func TestExamples(t *testing.T) {
	x := New(made(t, []api.Key{{ID: 1, Kind: api.ValFlag}, {ID: 3, Kind: api.ValText}}))
	checkAdd(t, x, nil, 0)
	checkAdd(t, x, one(1, value.Flag(true)), 1)
	checkAdd(t, x, one(1, value.Flag(true)), 1)
	checkAdd(t, x, one(1, value.Flag(false)), 2)
	checkErrno(t, "Free", x.Free(1), api.OK)
	checkErrno(t, "Free", x.Free(1), api.OK)
	checkErrno(t, "Free", x.Free(1), api.ErrRange)
	checkAdd(t, x, one(3, text("a")), 1)
}

// The rows that the tests hold the package against are held against the layers below.
func TestRowsOfTheTests(t *testing.T) {
	s := made(t, keys())
	told := map[api.Errno]int{}
	for _, set := range noSets() {
		told[attrs.May(s, set)]++
	}
	if len(told) != 2 || told[api.ErrMalformed] < 20 || told[api.ErrKey] < 20 {
		t.Fatalf("both errors should be told: %v", told)
	}
	for _, set := range likeOnes() {
		if e := attrs.May(s, set); e != api.OK {
			t.Fatalf("May of %s: %d", brief(set), e)
		}
	}
	if f := full(); len(f) != 64 || made(t, f).Len() != 64 || attrs.May(made(t, f), setOf(f, 3)) != api.OK {
		t.Fatalf("%+v should be 64 keys", f)
	}
}

// P7.1

func TestNewHasTheEmptySetAlone(t *testing.T) {
	for _, s := range []*schema.Schema{nil, {}, made(t, nil), made(t, keys()), made(t, full())} {
		x := New(s)
		checkIDs(t, x, 0)
		checkHeld(t, x, 0, 0)
		checkSet(t, x, 0, nil)
		checkNoSuch(t, x, 1, -1, 2)
		checkSame(t, x, newModel(s))
	}
}

// TestNewOfNoSchema: such a table has no keys, so that the empty set alone may be, and what is malformed is told ahead of that.
func TestNewOfNoSchema(t *testing.T) {
	for _, s := range []*schema.Schema{nil, {}, made(t, nil)} {
		x, m := both(s)
		for _, set := range slices.Concat(noSets(), likeOnes(), noSets()) {
			step{what: "Add", set: set}.do(t, x, m)
		}
		checkIDs(t, x, 0)
		checkHeld(t, x, 0, 1)
		step{what: "Hold"}.do(t, x, m)
		checkSame(t, x, m)
	}
}

func TestNewIsOfItsOwn(t *testing.T) {
	s := made(t, keys())
	x, y := New(s), New(s)
	checkAdd(t, x, one(1, flag(1)), 1)
	checkAdd(t, x, nil, 0)
	checkIDs(t, y, 0)
	checkHeld(t, y, 0, 0)
	checkAdd(t, y, one(2, whole(1)), 1)
	checkAdd(t, y, one(1, flag(1)), 2)
	checkErrno(t, "Free", y.Free(1), api.OK)
	checkIDs(t, x, 0, 1)
	checkSet(t, x, 1, one(1, flag(1)))
	checkIDs(t, y, 0, 2)
}

// TestNewIsOfThatSchema: a set that one schema has is none of another one's.
func TestNewIsOfThatSchema(t *testing.T) {
	for i, k := range keys() {
		x := New(made(t, []api.Key{k}))
		for j, o := range keys() {
			id, e := x.Add(one(o.ID, valuesOf(o.Kind)[0]))
			if i == j && (id != 1 || e != api.OK) || i != j && (id != 0 || e != api.ErrKey) {
				t.Fatalf("Add of key %d to a table of key %d: %d, %d", o.ID, k.ID, id, e)
			}
		}
		checkIDs(t, x, 0, 1)
	}
}

func TestAddAgain(t *testing.T) {
	x := plain(t)
	for i, set := range numbered(50) {
		for n := 1; n <= i+1; n++ {
			checkAdd(t, x, set, i+1)
			checkHeld(t, x, i+1, n)
		}
	}
	for i, set := range numbered(50) {
		checkAdd(t, x, slices.Clone(set), i+1)
		checkHeld(t, x, i+1, i+2)
		checkSet(t, x, i+1, set)
	}
	if x.Len() != 51 {
		t.Fatalf("Len: %d; want 51", x.Len())
	}
}

// TestAddOfTheEmptySet: nil and a list without length are one set, and need no room.
func TestAddOfTheEmptySet(t *testing.T) {
	x := plain(t)
	for n, set := range [][]api.Attr{nil, {}, make([]api.Attr, 0, 5), setOf(keys(), 0)[:0], nil} {
		checkAdd(t, x, set, 0)
		checkHeld(t, x, 0, n+1)
		checkIDs(t, x, 0)
	}
	checkAdd(t, x, one(1, flag(0)), 1)
	checkAdd(t, x, nil, 0)
	checkHeld(t, x, 0, 6)
	checkHeld(t, x, 1, 1)
}

// TestAddTellsSetsApart: ids are alike just if sets are, whatever the sets are alike in, in whatever order they come, and however often.
func TestAddTellsSetsApart(t *testing.T) {
	sets := distinct(likeOnes())
	x := plain(t)
	for i, set := range sets {
		checkAdd(t, x, set, i)
	}
	if x.Len() != len(sets) {
		t.Fatalf("Len: %d; want %d", x.Len(), len(sets))
	}
	for i, set := range sets {
		checkAdd(t, x, set, i)
		checkHeld(t, x, i, 2)
		checkSet(t, x, i, set)
	}
	y := plain(t)
	for i, set := range slices.Backward(sets) {
		checkAdd(t, y, set, (len(sets)-i)%len(sets))
	}
}

func TestAddInWords(t *testing.T) {
	x := plain(t)
	sets := [][]api.Attr{
		one(3, float(0)), one(3, float(1<<63)), // 0 and -0
		one(3, value.Float(1)), one(2, whole(1)), one(4, text("1")), one(1, flag(1)), // four that read alike
		one(12, whole(1)), one(22, whole(1)), // of other keys alone
		one(4, text("a")), one(4, text("ab")), one(4, text("")), one(4, text("a\x00")), // one begins as another one does
		two(4, text("a"), 14, text("b")), two(4, text("ab"), 14, text("")), two(4, text(""), 14, text("ab")),
		one(3, float(api.NaN)), one(4, text("NaN")),
		one(4, text("\u00e9")), one(4, text("e\u0301")), // two ways to write what looks alike
	}
	for i, set := range sets {
		checkAdd(t, x, set, i+1)
	}
	checkAdd(t, x, one(3, value.Float(math.NaN())), 16)
	checkAdd(t, x, one(3, value.Float(math.Float64frombits(0xfff8000000000123))), 16)
	checkAdd(t, x, one(3, value.Float(math.Copysign(0, -1))), 2)
	checkHeld(t, x, 1, 1)
	checkHeld(t, x, 16, 3)
}

// TestAddOfEachTwoValues holds each value against each other one, alone, behind another attribute, and ahead of one.
func TestAddOfEachTwoValues(t *testing.T) {
	for kind := uint8(1); kind <= 4; kind++ {
		values := valuesOf(kind)
		for i, v := range values {
			x := plain(t)
			key := 10 + int(kind)
			with := func(v api.Value) []api.Attr {
				return []api.Attr{{Key: 4, Value: text("a")}, {Key: key, Value: v}, {Key: 1000, Value: text("b")}}
			}
			checkAdd(t, x, one(key, v), 1)
			checkAdd(t, x, with(v), 2)
			for j, w := range values {
				id, _ := x.Add(one(key, w))
				more, _ := x.Add(with(w))
				if (id == 1) != (i == j) || (more == 2) != (i == j) {
					t.Fatalf("%+v and %+v: %d, %d", v, w, id, more)
				}
			}
		}
	}
}

// TestAddOfEachTwoKeys: keys that are alike in their first or last digits, or in few bits, each alone and each with each other one.
func TestAddOfEachTwoKeys(t *testing.T) {
	rules := []func(i int) int{
		func(i int) int { return i + 1 },
		func(i int) int { return i + 937 },
		func(i int) int { return i%4*256 + i/4 + 1 },
		func(i int) int { return i*15 + 1 },
		func(i int) int { return i%8*111 + i/8 + 1 },
	}
	for _, rule := range rules {
		for kind := uint8(1); kind <= 4; kind++ {
			var all []api.Key
			for i := range 64 {
				all = append(all, api.Key{ID: rule(i), Kind: kind})
			}
			slices.SortFunc(all, func(a, b api.Key) int { return a.ID - b.ID })
			x := New(made(t, all))
			next := 1
			for _, v := range valuesOf(kind)[:2] {
				for i, k := range all {
					checkAdd(t, x, one(k.ID, v), next)
					next++
					for _, o := range all[i+1:] {
						checkAdd(t, x, two(k.ID, v, o.ID, v), next)
						next++
					}
				}
			}
		}
	}
}

// TestAddOfTextsThatReadAsSets: parts of the texts by which a table finds its sets, as values, so that how those are made can't be what makes two sets one.
func TestAddOfTextsThatReadAsSets(t *testing.T) {
	x := plain(t)
	sets := [][]api.Attr{nil}
	for _, s := range []string{"", "0", "1", "2", "4", "a", "1 ", " 1"} {
		for _, u := range []string{"", "1", "x"} {
			for _, set := range [][]api.Attr{two(4, text(s), 14, text(u)), two(4, text(s), 12, whole(1)), two(2, whole(1), 4, text(s)), one(4, text(s))} {
				sets = append(sets, set)
				all := textOf(set)
				for i := range all {
					for _, part := range []string{all[i:], all[:i], s + all[i:]} {
						sets = append(sets, one(4, text(part)), one(14, text(part)), two(4, text(part), 14, text(u)))
					}
				}
			}
		}
	}
	sets = distinct(sets)
	for i, set := range sets {
		checkAdd(t, x, set, i)
	}
	for i, set := range sets {
		checkAdd(t, x, set, i)
		checkSet(t, x, i, set)
	}
}

// TestTextsTellKindsApart: no schema has a key of two kinds, so that calls alone can't ask it.
func TestTextsTellKindsApart(t *testing.T) {
	seen := map[string]api.Value{}
	for kind := uint8(1); kind <= 4; kind++ {
		for _, v := range valuesOf(kind) {
			of := textOf(one(1, v))
			if w, twice := seen[of]; twice {
				t.Fatalf("%+v and %+v have one text", v, w)
			}
			seen[of] = v
		}
	}
}

func TestAddOf64Attributes(t *testing.T) {
	x, m := both(made(t, full()))
	for turn := range 20 {
		set := setOf(full(), turn)
		step{what: "Add", set: set}.do(t, x, m)
		for i := range set {
			step{what: "Add", set: slices.Delete(slices.Clone(set), i, i+1)}.do(t, x, m)
			other := slices.Clone(set)
			v := valuesOf(set[i].Value.Kind)
			other[i].Value = v[(slices.Index(v, set[i].Value)+1)%len(v)]
			step{what: "Add", set: other}.do(t, x, m)
		}
		step{what: "Add", set: set}.do(t, x, m)
		step{what: "Add", set: append(slices.Clone(set), api.Attr{Key: 2000, Value: flag(1)})}.do(t, x, m)
	}
	checkSame(t, x, m)
}

// TestAddOfWhatMayNotBe: what layer 5 tells is told, of a table with sets and ids that are free, too, and the table is as it was.
func TestAddOfWhatMayNotBe(t *testing.T) {
	x, m := both(made(t, keys()))
	for _, s := range []step{{what: "Add"}, {what: "Add", set: one(1, flag(1))}, {what: "Add", set: one(2, whole(1))}, {what: "Add", set: setOf(keys(), 1)}, {what: "Free", id: 2}, {what: "Hold", id: 3}} {
		for _, set := range noSets() {
			id, e := x.Add(set)
			if id != 0 || e != attrs.May(made(t, keys()), set) {
				t.Fatalf("Add of %s: %d, %d", brief(set), id, e)
			}
		}
		checkSame(t, x, m)
		s.do(t, x, m)
		checkSame(t, x, m)
	}
	checkAdd(t, x, one(4, text("a")), 2)
	checkAdd(t, x, one(4, text("b")), 4)
}

// P7.2

func TestHoldAndFreeAsOften(t *testing.T) {
	for times := 1; times <= 20; times++ {
		for added := 1; added <= times; added++ {
			x := plain(t)
			for range added {
				checkAdd(t, x, one(1, flag(1)), 1)
			}
			for range times - added {
				checkErrno(t, "Hold", x.Hold(1), api.OK)
			}
			for n := times; n > 0; n-- {
				checkHeld(t, x, 1, n)
				checkSet(t, x, 1, one(1, flag(1)))
				checkIDs(t, x, 0, 1)
				checkErrno(t, "Free", x.Free(1), api.OK)
			}
			checkNoSuch(t, x, 1)
			checkIDs(t, x, 0)
			checkAdd(t, x, one(1, flag(1)), 1)
			checkHeld(t, x, 1, 1)
		}
	}
}

func TestHoldManyTimes(t *testing.T) {
	const many = 1<<16 + 3
	x := plain(t)
	checkAdd(t, x, one(1, flag(1)), 1)
	for range many {
		checkErrno(t, "Hold", x.Hold(1), api.OK)
		checkErrno(t, "Hold", x.Hold(0), api.OK)
	}
	checkHeld(t, x, 1, many+1)
	checkHeld(t, x, 0, many)
	for range many {
		checkErrno(t, "Free", x.Free(1), api.OK)
		checkErrno(t, "Free", x.Free(0), api.OK)
	}
	checkHeld(t, x, 1, 1)
	checkHeld(t, x, 0, 0)
	checkErrno(t, "Free", x.Free(1), api.OK)
	checkNoSuch(t, x, 1)
}

// TestTheEmptySetStays: it is there however often it is freed, and never owes a hold.
func TestTheEmptySetStays(t *testing.T) {
	x := plain(t)
	for frees := range 5 {
		for range frees {
			checkErrno(t, "Free", x.Free(0), api.OK)
			checkHeld(t, x, 0, 0)
			checkSet(t, x, 0, nil)
			checkIDs(t, x, 0)
		}
		checkErrno(t, "Hold", x.Hold(0), api.OK)
		checkHeld(t, x, 0, 1)
		checkAdd(t, x, nil, 0)
		checkHeld(t, x, 0, 2)
		checkErrno(t, "Free", x.Free(0), api.OK)
		checkErrno(t, "Free", x.Free(0), api.OK)
		checkHeld(t, x, 0, 0)
	}
	checkAdd(t, x, one(1, flag(1)), 1) // 0 is not given
	checkErrno(t, "Free", x.Free(0), api.OK)
	checkAdd(t, x, one(1, flag(0)), 2)
	checkAdd(t, x, nil, 0)
	checkIDs(t, x, 0, 1, 2)
}

func TestASetThatIsGoneComesAgain(t *testing.T) {
	x := plain(t)
	checkAdd(t, x, one(1, flag(1)), 1)
	checkAdd(t, x, one(1, flag(0)), 2)
	checkAdd(t, x, one(2, whole(0)), 3)
	checkErrno(t, "Free", x.Free(1), api.OK)
	checkErrno(t, "Free", x.Free(2), api.OK)
	checkAdd(t, x, one(1, flag(1)), 2) // the id that was freed last, not the one it had
	checkHeld(t, x, 2, 1)
	checkSet(t, x, 2, one(1, flag(1)))
	checkNoSuch(t, x, 1)
	checkAdd(t, x, one(1, flag(0)), 1)
	checkAdd(t, x, one(1, flag(1)), 2)
	checkHeld(t, x, 2, 2)
	checkAdd(t, x, one(2, whole(0)), 3)
}

// TestFreedIDsAreGivenAgain frees ids in each order, and asks which ones are given then, with and without frees between.
func TestFreedIDsAreGivenAgain(t *testing.T) {
	const n = 5
	sets := numbered(20)
	for _, order := range orders(n) {
		for freed := range n + 1 {
			x := plain(t)
			for i := range n {
				checkAdd(t, x, sets[i], i+1)
			}
			for _, i := range order[:freed] {
				checkErrno(t, "Free", x.Free(i+1), api.OK)
			}
			for k := range freed {
				checkAdd(t, x, sets[n+k], order[freed-1-k]+1)
			}
			for k := range 3 {
				checkAdd(t, x, sets[2*n+k], n+1+k) // none is left: the least ones that no set ever had
			}
			checkErrno(t, "Free", x.Free(n+2), api.OK)
			checkErrno(t, "Free", x.Free(1), api.OK)
			checkAdd(t, x, sets[14], 1)
			checkErrno(t, "Free", x.Free(n+1), api.OK)
			checkAdd(t, x, sets[15], n+1)
			checkAdd(t, x, sets[16], n+2)
			checkAdd(t, x, sets[17], n+4)
		}
	}
}

// TestRefusedCallsGiveNoID: Add of a set that is there, or may not be, Free and Hold of what is not there take no id away, and free none.
func TestRefusedCallsGiveNoID(t *testing.T) {
	x := plain(t)
	for i, set := range numbered(4) {
		checkAdd(t, x, set, i+1)
	}
	checkErrno(t, "Free", x.Free(2), api.OK)
	checkErrno(t, "Free", x.Free(3), api.OK)
	for range 3 {
		checkErrno(t, "Free", x.Free(2), api.ErrRange)
		checkErrno(t, "Hold", x.Hold(2), api.ErrRange)
		checkErrno(t, "Free", x.Free(5), api.ErrRange)
		checkErrno(t, "Free", x.Free(0), api.OK)
		checkAdd(t, x, numbered(1)[0], 1)
		checkAdd(t, x, nil, 0)
		_, e := x.Add(one(5, flag(1)))
		checkErrno(t, "Add", e, api.ErrKey)
	}
	checkAdd(t, x, one(1, flag(1)), 3)
	checkAdd(t, x, one(1, flag(0)), 2)
	checkAdd(t, x, one(4, text("a")), 5)
}

func TestIDsOfNoSet(t *testing.T) {
	none := []int{-1, -2, -3, -1000, 4, 5, 6, 1000, -1 << 31, 1 << 31, 1 << 32, 1<<32 + 1, -1 << 32, 1<<63 - 1, math.MaxInt - 1, math.MinInt, math.MinInt + 1, math.MinInt + 2}
	x, m := both(made(t, keys()))
	checkNoSuch(t, x, append(none, 1, 2, 3)...)
	for _, set := range numbered(3) {
		step{what: "Add", set: set}.do(t, x, m)
	}
	checkNoSuch(t, x, none...)
	step{what: "Free", id: 3}.do(t, x, m)
	step{what: "Free", id: 1}.do(t, x, m)
	checkNoSuch(t, x, append(none, 1, 3)...)
	checkSame(t, x, m)
}

// TestAnIDIsItsSetsAsLongAsItIsHeld: whatever other sets come and go.
func TestAnIDIsItsSetsAsLongAsItIsHeld(t *testing.T) {
	x := plain(t)
	sets := distinct(likeOnes())
	kept := map[int][]api.Attr{}
	for i, set := range sets {
		id, e := x.Add(set)
		checkErrno(t, "Add", e, api.OK)
		if i%7 == 3 {
			kept[id] = set
		} else {
			checkErrno(t, "Free", x.Free(id), api.OK)
		}
	}
	for _, set := range numbered(300) {
		id, _ := x.Add(set)
		if was, there := kept[id]; there && !alike(was, set) {
			t.Fatalf("%v has the id %d, which is the one of %v", set, id, was)
		}
	}
	for id, set := range kept {
		checkSet(t, x, id, set)
		checkAdd(t, x, set, id)
	}
}

// TestManySets takes a table over many sizes, up and down again.
func TestManySets(t *testing.T) {
	const many = 3000
	x := plain(t)
	sets := numbered(many)
	for round := range 3 {
		for i, set := range sets {
			want := i + 1
			if round > 0 { // freed in rising order: the last one first
				want = many - i
			}
			checkAdd(t, x, set, want)
			if x.Len() != i+2 {
				t.Fatalf("Len: %d; want %d", x.Len(), i+2)
			}
		}
		for id := 1; id <= many; id++ {
			checkHeld(t, x, id, 1)
		}
		for id := 1; id <= many; id++ {
			checkErrno(t, "Free", x.Free(id), api.OK)
			if x.Len() != many-id+1 {
				t.Fatalf("Len: %d; want %d", x.Len(), many-id+1)
			}
		}
		checkIDs(t, x, 0)
	}
}

// P7.3

func TestLenAndAllBeforeAndBehindSteps(t *testing.T) {
	x := plain(t)
	checkIDs(t, x, 0)
	for i, set := range numbered(5) {
		checkAdd(t, x, set, i+1)
	}
	checkIDs(t, x, 0, 1, 2, 3, 4, 5)
	checkErrno(t, "Free", x.Free(4), api.OK)
	checkErrno(t, "Free", x.Free(1), api.OK)
	checkIDs(t, x, 0, 2, 3, 5)
	checkErrno(t, "Free", x.Free(5), api.OK)
	checkIDs(t, x, 0, 2, 3)
	checkErrno(t, "Hold", x.Hold(2), api.OK)
	checkErrno(t, "Free", x.Free(2), api.OK)
	checkErrno(t, "Free", x.Free(0), api.OK)
	checkIDs(t, x, 0, 2, 3)
	checkAdd(t, x, one(1, flag(1)), 5)
	checkIDs(t, x, 0, 2, 3, 5)
	checkAdd(t, x, one(1, flag(1)), 5)
	checkIDs(t, x, 0, 2, 3, 5)
}

func TestAllIsKept(t *testing.T) {
	x := plain(t)
	all := x.All()
	check := func(want ...int) {
		t.Helper()
		for range 2 {
			if l := slices.Collect(all); !slices.Equal(l, want) {
				t.Fatalf("All: %v; want %v", l, want)
			}
		}
	}
	check(0)
	for i, set := range numbered(3) {
		checkAdd(t, x, set, i+1)
	}
	check(0, 1, 2, 3)
	checkErrno(t, "Free", x.Free(2), api.OK)
	check(0, 1, 3)
	for range all {
		break
	}
	check(0, 1, 3)
	checkErrno(t, "Free", x.Free(3), api.OK)
	checkAdd(t, x, one(1, flag(1)), 3)
	check(0, 1, 3)
}

// TestAllBreaksOff calls what All told itself, so that being told more than was asked for is seen, and does not end the test program.
func TestAllBreaksOff(t *testing.T) {
	x := plain(t)
	for i, set := range numbered(6) {
		checkAdd(t, x, set, i+1)
	}
	checkErrno(t, "Free", x.Free(2), api.OK)
	checkErrno(t, "Free", x.Free(6), api.OK)
	ids := []int{0, 1, 3, 4, 5}
	for n := 1; n <= len(ids)+1; n++ {
		var told []int
		x.All()(func(id int) bool {
			told = append(told, id)
			return len(told) < n
		})
		if want := ids[:min(n, len(ids))]; !slices.Equal(told, want) {
			t.Fatalf("All, broken off behind %d: %v; want %v", n, told, want)
		}
	}
}

func TestAllWithinAll(t *testing.T) {
	x := plain(t)
	for i, set := range numbered(4) {
		checkAdd(t, x, set, i+1)
	}
	all := x.All()
	var told []int
	for id := range all {
		for other := range all {
			told = append(told, 10*id+other)
		}
	}
	if want := []int{0, 1, 2, 3, 4, 10, 11, 12, 13, 14, 20, 21, 22, 23, 24, 30, 31, 32, 33, 34, 40, 41, 42, 43, 44}; !slices.Equal(told, want) {
		t.Fatalf("All within All: %v", told)
	}
}

// TestAllWhileSetsComeAndGo: each id is told as it is when it is told.
func TestAllWhileSetsComeAndGo(t *testing.T) {
	cases := []struct {
		what string
		at   func(x *Table, id int)
		want []int
	}{
		{"each freed as it is told", func(x *Table, id int) { x.Free(id) }, []int{0, 1, 2, 3, 4}},
		{"those ahead freed", func(x *Table, id int) { x.Free(id + 1) }, []int{0, 2, 4}},
		{"those behind freed", func(x *Table, id int) { x.Free(id - 1) }, []int{0, 1, 2, 3, 4}},
		{"freed, and given again", func(x *Table, id int) { x.Free(id); x.Add(one(12, whole(int64(id)))) }, []int{0, 1, 2, 3, 4, 5}}, // 5 at 0, which is not freed
		{"some more come", func(x *Table, id int) {
			if id < 3 {
				x.Add(one(12, whole(int64(id))))
			}
		}, []int{0, 1, 2, 3, 4, 5, 6, 7}},
		{"one behind comes again", func(x *Table, id int) {
			if id == 3 {
				x.Free(1)
				x.Add(one(1, flag(1)))
			}
		}, []int{0, 1, 2, 3, 4}},
		{"held and added", func(x *Table, id int) { x.Hold(id); x.Add(numbered(1)[0]); x.Add(nil) }, []int{0, 1, 2, 3, 4}},
	}
	for _, c := range cases {
		x := plain(t)
		for i, set := range numbered(4) {
			checkAdd(t, x, set, i+1)
		}
		var told []int
		for id := range x.All() {
			told = append(told, id)
			c.at(x, id)
		}
		if !slices.Equal(told, c.want) {
			t.Fatalf("%s: %v; want %v", c.what, told, c.want)
		}
	}
}

// A table that is not there, or a zero one.

func TestNoTable(t *testing.T) {
	for _, x := range []*Table{nil, {}, new(Table)} {
		for range 2 {
			for _, set := range slices.Concat(noSets(), [][]api.Attr{nil, {}, one(1, flag(1)), setOf(keys(), 0)}) {
				if id, e := x.Add(set); id != 0 || e != api.ErrNil {
					t.Fatalf("Add of %s: %d, %d; want 0, ErrNil", brief(set), id, e)
				}
			}
			for _, id := range []int{0, 1, 2, -1, math.MaxInt, math.MinInt} {
				checkErrno(t, "Hold", x.Hold(id), api.ErrNil)
				checkErrno(t, "Free", x.Free(id), api.ErrNil)
				if set, e := x.Set(id); len(set) != 0 || e != api.ErrNil {
					t.Fatalf("Set of %d: %v, %d; want none, ErrNil", id, set, e)
				}
				checkHeld(t, x, id, 0)
			}
			if x.All() == nil {
				t.Fatal("an iterator should never be nil")
			}
			checkIDs(t, x)
		}
	}
}

// TestACopyOfATable: it is the same table, so that neither of both makes calls on the other panic, or tell what is not there.
func TestACopyOfATable(t *testing.T) {
	x, m := both(made(t, keys()))
	step{what: "Add", set: one(1, flag(1))}.do(t, x, m)
	y := *x
	for i, set := range numbered(20) {
		step{what: "Add", set: set}.do(t, &y, m)
		step{what: "Add", set: one(12, whole(int64(i)))}.do(t, x, m)
		step{what: "Free", id: i}.do(t, &y, m)
		checkSame(t, x, m)
		checkSame(t, &y, m)
	}
}

// Steps of all sorts, against the model.

// TestAllShortRowsOfSteps takes each row of up to five of some steps on a new table.
func TestAllShortRowsOfSteps(t *testing.T) {
	steps := []step{{what: "Add"}, {what: "Add", set: one(1, flag(1))}, {what: "Add", set: one(1, flag(0))}, {what: "Add", set: one(4, text("a"))}, {what: "Add", set: one(1, whole(1))},
		{what: "Hold"}, {what: "Hold", id: 1}, {what: "Free"}, {what: "Free", id: 1}, {what: "Free", id: 2}}
	s := made(t, keys())
	var take func(row []step)
	take = func(row []step) {
		x, m := both(s)
		for _, r := range row {
			r.do(t, x, m)
		}
		checkSame(t, x, m)
		if len(row) == 5 {
			return
		}
		for _, r := range steps {
			take(append(slices.Clone(row), r))
		}
	}
	take(nil)
}

// TestLongRowsOfSteps: which step is next is told by a rule, so that each run takes the same ones.
func TestLongRowsOfSteps(t *testing.T) {
	sets := slices.Concat(distinct(likeOnes())[:40], numbered(20), noSets()[:10])
	for seed := range uint64(8) {
		x, m := both(made(t, keys()))
		n := seed
		next := func(below int) int {
			n = n*0x5851f42d4c957f2d + 0x14057b7ef767814f
			return int(n>>33) % below
		}
		for i := range 4000 {
			s := step{what: "Add", set: sets[next(len(sets))], id: next(40) - 2}
			if kind := next(20); kind > 8 { // more is freed than held: sets come and go
				s.what = "Free"
			} else if kind > 6 {
				s.what = "Hold"
			}
			s.do(t, x, m)
			if i%16 == 0 {
				checkSame(t, x, m)
			}
		}
		checkSame(t, x, m)
	}
}

// R2

// TestAddKeepsNothing: what is handed in is not written to, nor what stands behind it, and may be written over.
func TestAddKeepsNothing(t *testing.T) {
	sets := distinct(likeOnes())
	x := plain(t)
	for i, set := range sets {
		room := append(slices.Clone(set), api.Attr{Key: 7, Value: text("behind")}, api.Attr{Key: 8})
		for range 2 {
			checkAdd(t, x, room[:len(set)], i)
			if !alike(room[:len(set)], set) || !alike(room[len(set):], []api.Attr{{Key: 7, Value: text("behind")}, {Key: 8}}) {
				t.Fatalf("Add of %s wrote to what was handed in: %s", brief(set), brief(room))
			}
		}
		for j := range room {
			room[j] = api.Attr{Key: 1, Value: flag(1)}
		}
	}
	for i, set := range sets {
		checkSet(t, x, i, set)
		checkAdd(t, x, set, i)
		checkHeld(t, x, i, 3)
	}
}

// TestAddKeepsNoText: a text's memory may be written over, too, where it is somebody's bytes.
func TestAddKeepsNoText(t *testing.T) {
	x := plain(t)
	b := []byte("a text of some runes")
	checkAdd(t, x, two(4, text(unsafe.String(&b[0], len(b))), 14, text(unsafe.String(&b[2], 4))), 1)
	if string(b) != "a text of some runes" {
		t.Fatalf("Add wrote to what was handed in: %q", b)
	}
	clear(b)
	want := two(4, text("a text of some runes"), 14, text("text"))
	checkSet(t, x, 1, want)
	checkAdd(t, x, want, 1)
	checkErrno(t, "Free", x.Free(1), api.OK)
	checkErrno(t, "Free", x.Free(1), api.OK)
	checkAdd(t, x, one(1, flag(1)), 1)
	checkAdd(t, x, want, 2)
}

// TestSetIsItsOwn: what Set tells may be written over, room behind it and its texts' memory too, and no two answers share any.
func TestSetIsItsOwn(t *testing.T) {
	x := plain(t)
	sets := distinct(likeOnes())
	for i, set := range sets {
		checkAdd(t, x, set, i)
	}
	for i, set := range sets {
		told, e := x.Set(i)
		other, f := x.Set(i)
		if e != api.OK || f != api.OK {
			t.Fatalf("Set of %d: %d, %d", i, e, f)
		}
		for j := range told {
			overwrite(told[j].Value.S)
			told[j] = api.Attr{Key: -1, Value: text("other")}
		}
		told = append(told, api.Attr{Key: 3})
		if !alike(other, set) {
			t.Fatalf("two answers share memory: %s", brief(other))
		}
		for j := range other {
			other[j] = api.Attr{}
		}
		checkSet(t, x, i, set)
		checkAdd(t, x, set, i)
	}
	for i, set := range sets {
		checkSet(t, x, i, set)
		checkAdd(t, x, set, i)
	}
}

// overwrite is done to copies alone: the texts of the tests stand in memory that may not be written to.
func overwrite(s string) {
	if s != "" {
		clear(unsafe.Slice(unsafe.StringData(s), len(s)))
	}
}

// TestTheSchemaMayBeWrittenOver: a table is of the schema that New was handed, whatever becomes of that one's place.
func TestTheSchemaMayBeWrittenOver(t *testing.T) {
	s := made(t, keys())
	x := New(s)
	checkAdd(t, x, one(1, flag(1)), 1)
	*s = *made(t, []api.Key{{ID: 5, Kind: 2}})
	checkAdd(t, x, one(2, whole(1)), 2)
	_, e := x.Add(one(5, whole(1)))
	checkErrno(t, "Add", e, api.ErrKey)
	*s = schema.Schema{}
	checkAdd(t, x, one(4, text("a")), 3)
	checkAdd(t, x, one(1, flag(1)), 1)
}
