package attrs

import (
	"math"
	"slices"
	"strings"
	"testing"

	"rubric/api"
	"rubric/schema"
	"rubric/value"
)

// The model: the chapter's words, said of lists that are gone over from end to end.

// isGood tells apart the values of the tests alone; TestRowsOfTheTests holds it against layer 3.
func isGood(v api.Value) bool {
	return slices.Contains(goodValues(), v)
}

func isMalformed(set []api.Attr) bool {
	for i, a := range set {
		falls := slices.ContainsFunc(set[:i], func(o api.Attr) bool { return o.Key >= a.Key })
		if falls || !isGood(a.Value) {
			return true
		}
	}
	return len(set) > 64
}

func mayOf(keys []api.Key, set []api.Attr) api.Errno {
	if isMalformed(set) {
		return api.ErrMalformed
	}
	for _, a := range set {
		if k, there := keyOf(keys, a.Key); !there || k.Kind != a.Value.Kind {
			return api.ErrKey
		}
	}
	return api.OK
}

func keyOf(keys []api.Key, id int) (api.Key, bool) {
	for _, k := range keys {
		if k.ID == id {
			return k, true
		}
	}
	return api.Key{}, false
}

func only(set []api.Attr, of func(api.Attr) bool) []api.Attr {
	var l []api.Attr
	for _, a := range set {
		if of(a) {
			l = append(l, a)
		}
	}
	return l
}

func withoutOf(set []api.Attr, key int) []api.Attr {
	return only(set, func(a api.Attr) bool { return a.Key != key })
}

func withOf(set []api.Attr, a api.Attr) []api.Attr {
	l := append(only(set, func(o api.Attr) bool { return o.Key < a.Key }), a)
	return append(l, only(set, func(o api.Attr) bool { return o.Key > a.Key })...)
}

func getOf(set []api.Attr, key int) (api.Value, bool) {
	for _, a := range set {
		if a.Key == key {
			return a.Value, true
		}
	}
	return api.Value{}, false
}

func partOf(keys []api.Key, set []api.Attr, block bool) []api.Attr {
	return only(set, func(a api.Attr) bool {
		k, there := keyOf(keys, a.Key)
		return there && k.Block == block
	})
}

// alike takes no list that is nil for another one than an empty one.
func alike(a, b []api.Attr) bool {
	if len(a) != len(b) {
		return false
	}
	for i := range a {
		v, w := a[i].Value, b[i].Value
		if a[i].Key != b[i].Key || v.Kind != w.Kind || v.N != w.N || v.F != w.F || v.S != w.S {
			return false
		}
	}
	return true
}

// The rows of the tests.

func valuesOf(kind uint8) []api.Value {
	switch kind {
	case 1:
		return []api.Value{{Kind: 1}, {Kind: 1, N: 1}}
	case 2:
		return []api.Value{{Kind: 2}, {Kind: 2, N: 1}, {Kind: 2, N: -1}, {Kind: 2, N: math.MinInt64}, {Kind: 2, N: math.MaxInt64}}
	case 3:
		return []api.Value{{Kind: 3}, {Kind: 3, F: 1 << 63}, {Kind: 3, F: math.Float64bits(1.5)}, {Kind: 3, F: math.Float64bits(math.Inf(-1))}, {Kind: 3, F: api.NaN}}
	}
	return []api.Value{{Kind: 4}, {Kind: 4, S: "a"}, {Kind: 4, S: "\u00e4\n"}, {Kind: 4, S: strings.Repeat("\u00e4", 32)}}
}

func goodValues() []api.Value {
	return slices.Concat(valuesOf(1), valuesOf(2), valuesOf(3), valuesOf(4))
}

// badValues are of each kind, of none, and of what is no kind.
func badValues() []api.Value {
	return []api.Value{
		{}, {N: 1}, {F: 1}, {S: "a"},
		{Kind: 1, N: 2}, {Kind: 1, N: -1}, {Kind: 1, F: 1}, {Kind: 1, S: "a"},
		{Kind: 2, F: 1}, {Kind: 2, N: 3, S: "a"},
		{Kind: 3, F: api.NaN + 1}, {Kind: 3, F: api.NaN | 1<<63}, {Kind: 3, N: 1}, {Kind: 3, S: "a"},
		{Kind: 4, S: "\xff"}, {Kind: 4, S: "\xc0\x80"}, {Kind: 4, S: strings.Repeat("a", 65)}, {Kind: 4, N: 1}, {Kind: 4, F: 1},
		{Kind: 5}, {Kind: 5, N: 1}, {Kind: 128}, {Kind: 255, S: "a"},
	}
}

// good are inline and block keys of each kind; 0, 2, 6, 1001 and others are none of them.
func good() []api.Key {
	return []api.Key{
		{ID: 1, Kind: 1, After: true},
		{ID: 3, Kind: 4, Before: true},
		{ID: 5, Kind: 2},
		{ID: 7, Block: true, Kind: 2, Group: 1},
		{ID: 9, Kind: 3, After: true, Before: true},
		{ID: 11, Block: true, Kind: 4, Group: 1},
		{ID: 12, Block: true, Kind: 1, After: true},
		{ID: 1000, Block: true, Kind: 3},
	}
}

// full are as many keys as may be, from 1 to 1000, inline ones and block ones of each kind among one another.
func full() []api.Key {
	var l []api.Key
	for i := range 64 {
		l = append(l, api.Key{ID: 1 + i*15 + i*6/7, Kind: uint8(i%4 + 1), Block: i%3 == 1 || i == 63})
	}
	return l
}

// someKeys are all that the chapter names, those beside them, and some that are one of those in fewer bits.
func someKeys() []int {
	l := []int{math.MinInt, math.MinInt + 1, -1 << 32, -1000, -2, 998, 999, 1000, 1001, 1002, 1 << 16, 1<<16 + 1, 1 << 32, 1<<32 + 1, 1<<32 + 1000, math.MaxInt - 1, math.MaxInt}
	for key := -1; key <= 20; key++ {
		l = append(l, key)
	}
	return l
}

// setOf has an attribute of each of the keys, with one of its values, which turn tells.
func setOf(keys []api.Key, turn int) []api.Attr {
	var l []api.Attr
	for i, k := range keys {
		v := valuesOf(k.Kind)
		l = append(l, api.Attr{Key: k.ID, Value: v[(i+turn)%len(v)]})
	}
	return l
}

// numbered is n attributes by rising keys, two between neighbours.
func numbered(first, n int) []api.Attr {
	var l []api.Attr
	for i := range n {
		l = append(l, api.Attr{Key: first + 2*i, Value: value.Int(int64(i))})
	}
	return l
}

// subsets are all sets of some of these attributes.
func subsets(of []api.Attr) [][]api.Attr {
	var l [][]api.Attr
	for bits := range 1 << len(of) {
		var set []api.Attr
		for i, a := range of {
			if bits>>i&1 == 1 {
				set = append(set, a)
			}
		}
		l = append(l, set)
	}
	return l
}

// lists are all lists of these attributes of that length, in whatever order, and however often each.
func lists(of []api.Attr, n int) [][]api.Attr {
	l := [][]api.Attr{nil}
	for range n {
		var longer [][]api.Attr
		for _, set := range l {
			for _, a := range of {
				longer = append(longer, append(slices.Clone(set), a))
			}
		}
		l = longer
	}
	return l
}

// orders are all orders of the numbers below n.
func orders(n int) [][]int {
	if n == 0 {
		return [][]int{nil}
	}
	var l [][]int
	for _, o := range orders(n - 1) {
		for at := range n {
			l = append(l, slices.Insert(slices.Clone(o), at, n-1))
		}
	}
	return l
}

// wide are attributes at both ends of all keys, about those that a schema may have, and of all kinds of values.
func wide() []api.Attr {
	return []api.Attr{
		{Key: math.MinInt, Value: api.Value{Kind: 3, F: api.NaN}},
		{Key: -1, Value: api.Value{Kind: 1, N: 1}},
		{Key: 0, Value: api.Value{}},
		{Key: 1, Value: api.Value{Kind: 4, S: "a"}},
		{Key: 3, Value: api.Value{Kind: 2, N: 7}},
		{Key: 1000, Value: api.Value{Kind: 9, N: 1, F: 2, S: "\xff"}},
		{Key: math.MaxInt, Value: api.Value{Kind: 2, N: math.MinInt64}},
	}
}

// Checks. Each test ends at its first fault: the rows are long, and what is wrong with one is wrong with many.

func made(t *testing.T, keys []api.Key) *schema.Schema {
	t.Helper()
	s, e := schema.New(keys)
	if e != api.OK {
		t.Fatalf("a schema of %+v: %d", keys, e)
	}
	return s
}

func checkMay(t *testing.T, s *schema.Schema, set []api.Attr, want api.Errno) {
	t.Helper()
	if e := May(s, set); e != want {
		t.Fatalf("May of %.200v and %d attributes %.600v: %d; want %d", s, len(set), set, e, want)
	}
}

func checkSet(t *testing.T, what string, set, want []api.Attr) {
	t.Helper()
	if !alike(set, want) {
		t.Fatalf("%s: %+v; want %+v", what, set, want)
	}
}

func checkGet(t *testing.T, set []api.Attr, key int) {
	t.Helper()
	v, ok := Get(set, key)
	if want, there := getOf(set, key); v != want || ok != there {
		t.Fatalf("Get of %d in %+v: %+v, %v; want %+v, %v", key, set, v, ok, want, there)
	}
}

// checkKey holds all that is asked of a set and a key against the model.
func checkKey(t *testing.T, set []api.Attr, key int) {
	t.Helper()
	checkGet(t, set, key)
	checkSet(t, "Without", Without(set, key), withoutOf(set, key))
	for _, v := range []api.Value{{}, {Kind: 2, N: 5}, {Kind: 4, S: "\xff"}} {
		a := api.Attr{Key: key, Value: v}
		checkSet(t, "With", With(set, a), withOf(set, a))
	}
}

func checkPart(t *testing.T, s *schema.Schema, keys []api.Key, set []api.Attr) {
	t.Helper()
	for _, block := range []bool{false, true} {
		checkSet(t, "Part", Part(s, set, block), partOf(keys, set, block))
	}
}

func TestExamples(t *testing.T) {
	set := []api.Attr{{Key: 1, Value: value.Flag(true)}, {Key: 5, Value: value.Int(2)}}
	a := api.Attr{Key: 3, Value: api.Value{Kind: api.ValText, S: "a"}}
	checkSet(t, "With", With(set, a), []api.Attr{set[0], a, set[1]})
	s := made(t, good())
	checkMay(t, s, set, api.OK)
	checkMay(t, s, []api.Attr{set[1], set[0]}, api.ErrMalformed)
}

// The rows that the tests hold the package against are held against the layers below, and the chapter's words.
func TestRowsOfTheTests(t *testing.T) {
	for _, v := range goodValues() {
		if !value.May(v) {
			t.Errorf("%+v should be a value", v)
		}
	}
	for _, v := range badValues() {
		if value.May(v) || isGood(v) {
			t.Errorf("%+v should be no value", v)
		}
	}
	keys := full()
	if len(keys) != 64 || keys[0].ID != 1 || keys[63].ID != 1000 || made(t, keys).Len() != 64 {
		t.Errorf("%+v should be 64 keys from 1 to 1000", keys)
	}
	for turn := range 20 {
		if isMalformed(setOf(keys, turn)) || mayOf(keys, setOf(keys, turn)) != api.OK {
			t.Errorf("the set %d of all keys should be one", turn)
		}
	}
}

// P5.1

func TestMayOfNoAttribute(t *testing.T) {
	for _, s := range []*schema.Schema{nil, {}, made(t, nil), made(t, good()), made(t, full())} {
		checkMay(t, s, nil, api.OK)
		checkMay(t, s, []api.Attr{}, api.OK)
		checkMay(t, s, setOf(good(), 0)[:0], api.OK)
	}
}

// TestMayByTheirNumber asks of each number of attributes up to 64, from either end, and with each one left out.
func TestMayByTheirNumber(t *testing.T) {
	s := made(t, full())
	for turn := range 20 {
		set := setOf(full(), turn)
		for n := range 65 {
			checkMay(t, s, set[:n], api.OK)
			checkMay(t, s, set[64-n:], api.OK)
		}
		for i := range set {
			checkMay(t, s, slices.Delete(slices.Clone(set), i, i+1), api.OK)
		}
	}
}

func TestMayOfEachPartOfASet(t *testing.T) {
	s := made(t, good())
	for turn := range 5 {
		for _, set := range subsets(setOf(good(), turn)) {
			checkMay(t, s, set, api.OK)
		}
	}
}

// TestTooManyAttributes: of 64 that are well-formed ErrKey is told, of one more ErrMalformed, whatever their keys and values are.
func TestTooManyAttributes(t *testing.T) {
	s := made(t, full())
	for _, first := range []int{-70, -1, 0, 1, 2000} {
		checkMay(t, s, numbered(first, 63), api.ErrKey)
		checkMay(t, s, numbered(first, 64), api.ErrKey)
		for _, n := range []int{65, 66, 127, 128, 129, 256, 257, 1000, 1<<16 + 1} {
			checkMay(t, s, numbered(first, n), api.ErrMalformed)
			checkMay(t, nil, numbered(first, n), api.ErrMalformed)
		}
	}
	for i := range 65 {
		more := slices.Insert(setOf(full(), 0), i, api.Attr{Key: i*16 - 1, Value: value.Int(1)})
		slices.SortFunc(more, func(a, b api.Attr) int { return a.Key - b.Key })
		checkMay(t, s, more, api.ErrMalformed)
	}
	checkMay(t, s, append(setOf(full(), 0), api.Attr{Key: 1001, Value: value.Flag(true)}), api.ErrMalformed)
	checkMay(t, s, make([]api.Attr, 65), api.ErrMalformed)
	checkMay(t, s, make([]api.Attr, 1<<20), api.ErrMalformed)
	checkMay(t, s, slices.Repeat(setOf(full(), 0), 2), api.ErrMalformed)
}

// TestMayOfEachValue lays each value, with each key, ahead of, between and behind attributes that may be.
func TestMayOfEachValue(t *testing.T) {
	s := made(t, good())
	set := setOf(good(), 1)
	for _, v := range slices.Concat(goodValues(), badValues()) {
		for i := range set {
			one := slices.Clone(set)
			one[i].Value = v
			checkMay(t, s, one[i:i+1], mayOf(good(), one[i:i+1]))
			checkMay(t, s, one, mayOf(good(), one))
			checkMay(t, s, one[:i+1], mayOf(good(), one[:i+1]))
			checkMay(t, s, one[i:], mayOf(good(), one[i:]))
		}
		for _, key := range someKeys() {
			alone := []api.Attr{{Key: key, Value: v}}
			checkMay(t, s, alone, mayOf(good(), alone))
			among := withOf(set, alone[0])
			checkMay(t, s, among, mayOf(good(), among))
		}
	}
}

func TestMayInWords(t *testing.T) {
	s := made(t, good())
	flag, number, text := value.Flag(true), value.Int(2), api.Value{Kind: api.ValText, S: "a"}
	cases := []struct {
		set  []api.Attr
		want api.Errno
	}{
		{[]api.Attr{{Key: 1, Value: flag}}, api.OK},
		{[]api.Attr{{Key: 1, Value: flag}, {Key: 7, Value: number}, {Key: 11, Value: text}}, api.OK}, // inline keys and block keys together, two of one group
		{[]api.Attr{{Key: 1, Value: number}}, api.ErrKey},                                            // a value of another kind
		{[]api.Attr{{Key: 2, Value: flag}}, api.ErrKey},                                              // no such key
		{[]api.Attr{{Key: 0, Value: flag}}, api.ErrKey},                                              // likewise
		{[]api.Attr{{Key: -5, Value: flag}}, api.ErrKey},                                             // likewise
		{[]api.Attr{{Key: 1001, Value: flag}}, api.ErrKey},                                           // likewise
		{[]api.Attr{{Key: 1}}, api.ErrMalformed},                                                     // no value
		{[]api.Attr{{Key: 2}}, api.ErrMalformed},                                                     // no value, no key
		{[]api.Attr{{}}, api.ErrMalformed},                                                           // likewise
		{[]api.Attr{{Key: 2, Value: flag}, {Key: 5, Value: api.Value{Kind: 2, S: "a"}}}, api.ErrMalformed},
		{[]api.Attr{{Key: 1, Value: number}, {Key: 1, Value: flag}}, api.ErrMalformed}, // one key twice
		{[]api.Attr{{Key: 2, Value: flag}, {Key: 1, Value: flag}}, api.ErrMalformed},
		{[]api.Attr{{Key: -1, Value: flag}, {Key: -2, Value: flag}}, api.ErrMalformed},
		{[]api.Attr{{Key: math.MaxInt, Value: flag}, {Key: math.MinInt, Value: flag}}, api.ErrMalformed},
		{[]api.Attr{{Key: math.MinInt, Value: flag}, {Key: math.MaxInt, Value: flag}}, api.ErrKey},
	}
	for _, c := range cases {
		checkMay(t, s, c.set, c.want)
	}
}

// TestKeysThatDoNotRise has of a set of all keys each two in each other's place, and each key at each other place, too.
func TestKeysThatDoNotRise(t *testing.T) {
	s := made(t, full())
	set := setOf(full(), 3)
	for i := range set {
		for j := range set {
			if i == j {
				continue
			}
			turned := slices.Clone(set)
			turned[i], turned[j] = set[j], set[i]
			checkMay(t, s, turned, api.ErrMalformed)
			checkMay(t, s, turned[min(i, j):max(i, j)+1], api.ErrMalformed)
			twice := slices.Clone(set)
			twice[i] = set[j]
			checkMay(t, s, twice, api.ErrMalformed)
			moved := slices.Insert(slices.Delete(slices.Clone(set), i, i+1), j, set[i])
			checkMay(t, s, moved, api.ErrMalformed)
		}
	}
	slices.Reverse(set)
	checkMay(t, s, set, api.ErrMalformed)
}

// TestOneKeyTwice lays each attribute beside itself, and beside another value of its key, of keys that are the schema's and not.
func TestOneKeyTwice(t *testing.T) {
	s := made(t, good())
	for _, key := range someKeys() {
		for _, v := range goodValues() {
			for _, w := range goodValues() {
				checkMay(t, s, []api.Attr{{Key: key, Value: v}, {Key: key, Value: w}}, api.ErrMalformed)
			}
		}
	}
	set := setOf(good(), 0)
	for i := range set {
		checkMay(t, s, slices.Insert(slices.Clone(set), i, set[i]), api.ErrMalformed)
		checkMay(t, s, slices.Insert(slices.Clone(set), i, api.Attr{Key: set[i].Key, Value: value.Int(9)}), api.ErrMalformed)
	}
}

// TestMalformedAheadOfKey lays at two places of a set what is ErrKey alone, and what is ErrMalformed alone: the latter is told, whichever comes first.
func TestMalformedAheadOfKey(t *testing.T) {
	s := made(t, full())
	for i := range 64 {
		for j := range 64 {
			if i == j {
				continue
			}
			foreign, other := setOf(full(), 0), setOf(full(), 0)
			foreign[i].Key++ // between two keys of the schema, or behind the last one
			other[i].Value = valuesOf(uint8((i+1)%4 + 1))[0]
			checkMay(t, s, foreign, api.ErrKey)
			checkMay(t, s, other, api.ErrKey)
			for _, set := range [][]api.Attr{foreign, other} {
				bad := slices.Clone(set)
				bad[j].Value = badValues()[(i+j)%len(badValues())]
				checkMay(t, s, bad, api.ErrMalformed)
				twice := slices.Clone(set)
				twice[j].Key = set[(j+1)%64].Key
				checkMay(t, s, twice, api.ErrMalformed)
			}
		}
	}
}

// TestMayOfAllShortLists holds May against the chapter's words at all lists of up to three attributes, with errors of all sorts among them.
func TestMayOfAllShortLists(t *testing.T) {
	var of []api.Attr
	for _, key := range []int{-1, 0, 1, 2, 7, 1000, 1001} {
		for _, v := range []api.Value{{}, {Kind: 1, N: 1}, {Kind: 1, N: 2}, {Kind: 2, N: 1}, {Kind: 3}, {Kind: 4, S: "a"}} {
			of = append(of, api.Attr{Key: key, Value: v})
		}
	}
	s := made(t, good())
	for n := range 4 {
		for _, set := range lists(of, n) {
			checkMay(t, s, set, mayOf(good(), set))
		}
	}
}

// TestMayOfNoSchema: a schema that is not there, and a zero one, have no keys; what is malformed is told all the same.
func TestMayOfNoSchema(t *testing.T) {
	for _, s := range []*schema.Schema{nil, {}, made(t, nil)} {
		for _, set := range subsets(setOf(good(), 0)) {
			checkMay(t, s, set, mayOf(nil, set))
		}
		for _, key := range someKeys() {
			for _, v := range goodValues() {
				checkMay(t, s, []api.Attr{{Key: key, Value: v}}, api.ErrKey)
			}
			for _, v := range badValues() {
				checkMay(t, s, []api.Attr{{Key: key, Value: v}}, api.ErrMalformed)
			}
			checkMay(t, s, []api.Attr{{Key: key, Value: value.Int(1)}, {Key: key, Value: value.Int(1)}}, api.ErrMalformed)
		}
	}
}

// P5.2

// TestEachKeyOfShortSets asks of each set of some attributes, and of keys ahead of, between, at and behind them.
func TestEachKeyOfShortSets(t *testing.T) {
	for _, set := range append(subsets(wide()), subsets(setOf(good(), 2))...) {
		for _, key := range someKeys() {
			checkKey(t, set, key)
		}
	}
}

// TestEachKeyOfLongSets asks of sets of each length up to some hundred, and some longer ones, of each key that they have, and of those beside it.
func TestEachKeyOfLongSets(t *testing.T) {
	for n := range 131 {
		for key := -101; key <= -99+2*n; key++ {
			checkKey(t, numbered(-100, n), key)
		}
	}
	for _, n := range []int{1000, 4096} {
		set := numbered(1, n)
		for _, key := range []int{math.MinInt, 0, 1, 2, 3, n - 1, n, n + 1, 2*n - 2, 2*n - 1, 2 * n, math.MaxInt} {
			checkKey(t, set, key)
		}
	}
}

func TestGetOfNothing(t *testing.T) {
	for _, set := range [][]api.Attr{nil, {}, wide()[:0]} {
		for _, key := range someKeys() {
			if v, ok := Get(set, key); ok || v != (api.Value{}) {
				t.Errorf("Get of %d: %+v, %v", key, v, ok)
			}
			checkKey(t, set, key)
		}
	}
}

// TestGetOfEachValue: a value is told as it was put in, also one that may not be, and a zero one as one that is there.
func TestGetOfEachValue(t *testing.T) {
	for _, v := range slices.Concat(goodValues(), badValues()) {
		for _, key := range someKeys() {
			set := With(setOf(good(), 0), api.Attr{Key: key, Value: v})
			if w, ok := Get(set, key); !ok || w != v {
				t.Errorf("Get of %d, put in as %+v: %+v, %v", key, v, w, ok)
			}
		}
	}
}

// TestInWhateverOrder puts attributes in in all orders, and takes them out again in all of them.
func TestInWhateverOrder(t *testing.T) {
	for _, row := range [][]api.Attr{wide()[:6], setOf(good(), 1)[2:]} {
		for _, order := range orders(len(row)) {
			var set []api.Attr
			for n, i := range order {
				set = With(set, row[i])
				for m, j := range order {
					v, ok := Get(set, row[j].Key)
					if m <= n && (!ok || v != row[j].Value) || m > n && ok {
						t.Fatalf("in the order %v, behind %d: Get of %d: %+v, %v", order, n, row[j].Key, v, ok)
					}
				}
			}
			checkSet(t, "With, one by one", set, row)
			for n, i := range order {
				before := set
				set = Without(set, row[i].Key)
				checkSet(t, "Without, one by one", set, withoutOf(before, row[i].Key))
				if len(set) != len(row)-n-1 {
					t.Fatalf("in the order %v, behind %d: %+v", order, n, set)
				}
			}
		}
	}
}

// TestManyInWhateverOrder puts 64 attributes in by steps of all odd widths.
func TestManyInWhateverOrder(t *testing.T) {
	row := setOf(full(), 0)
	s := made(t, full())
	for step := 1; step < 64; step += 2 {
		var set []api.Attr
		for i := range row {
			set = With(set, row[(i*step+7)%64])
			checkMay(t, s, set, api.OK)
		}
		checkSet(t, "With, one by one", set, row)
		for i := range row {
			set = Without(set, row[(i*step+11)%64].Key)
			checkMay(t, s, set, api.OK)
		}
		checkSet(t, "Without, one by one", set, nil)
	}
}

// TestPutAndTaken: what is put in anew takes the place of what was there, what is taken out twice is gone as once, and neither asks what was done before.
func TestPutAndTaken(t *testing.T) {
	for _, set := range subsets(wide()) {
		for _, key := range someKeys() {
			one, two := api.Attr{Key: key, Value: value.Int(1)}, api.Attr{Key: key, Value: value.Float(2)}
			with, without := With(set, two), Without(set, key)
			checkSet(t, "With twice", With(With(set, one), two), with)
			checkSet(t, "With behind With, the same", With(with, two), with)
			checkSet(t, "Without behind With", Without(with, key), without)
			checkSet(t, "With behind Without", With(without, two), with)
			checkSet(t, "Without twice", Without(without, key), without)
			if v, ok := Get(without, key); ok || v != (api.Value{}) {
				t.Errorf("Get of %d, taken out of %+v: %+v", key, set, v)
			}
			for _, a := range set {
				v, ok := Get(with, a.Key)
				w, there := Get(without, a.Key)
				if a.Key != key && (!ok || !there || v != a.Value || w != a.Value) {
					t.Errorf("%+v beside %d: %+v, %+v", a, key, v, w)
				}
			}
		}
	}
}

func TestPartOfEachSet(t *testing.T) {
	s := made(t, good())
	for turn := range 3 {
		for _, set := range subsets(setOf(good(), turn)) {
			checkPart(t, s, good(), set)
		}
	}
	for _, set := range subsets(wide()) {
		checkPart(t, s, good(), set)
		checkPart(t, made(t, full()), full(), set)
	}
	for n := range 65 {
		checkPart(t, made(t, full()), full(), setOf(full(), n)[:n])
		checkPart(t, made(t, good()), good(), setOf(full(), n)[64-n:])
	}
	checkPart(t, s, good(), numbered(1, 1000))
}

// TestPartsTogether: both parts of a set that may be are together the set, and neither has a key of the other one.
func TestPartsTogether(t *testing.T) {
	s := made(t, full())
	for turn := range 20 {
		for n := range 65 {
			set := setOf(full(), turn)[n/2 : n]
			inline, block := Part(s, set, false), Part(s, set, true)
			if len(inline)+len(block) != len(set) {
				t.Errorf("%d and %d attributes of %d", len(inline), len(block), len(set))
			}
			whole := inline
			for _, a := range block {
				if _, twice := Get(inline, a.Key); twice {
					t.Errorf("%+v is in both parts", a)
				}
				whole = With(whole, a)
			}
			checkSet(t, "both parts together", whole, set)
		}
	}
}

// TestPartOfForeignKeys: keys that are none of the schema's are in neither part, wherever they stand; those that are are asked for nothing but their keys.
func TestPartOfForeignKeys(t *testing.T) {
	s := made(t, good())
	set := setOf(good(), 0)
	for _, key := range someKeys() {
		if _, there := keyOf(good(), key); there {
			continue
		}
		for _, v := range slices.Concat(goodValues(), badValues()) {
			a := api.Attr{Key: key, Value: v}
			for _, block := range []bool{false, true} {
				checkSet(t, "Part of a foreign key", Part(s, []api.Attr{a}, block), nil)
				checkSet(t, "Part with a foreign key", Part(s, withOf(set, a), block), partOf(good(), set, block))
			}
		}
	}
	for _, v := range slices.Concat(goodValues(), badValues()) {
		for _, k := range good() {
			a := []api.Attr{{Key: k.ID, Value: v}}
			checkSet(t, "Part of its own kind", Part(s, a, k.Block), a)
			checkSet(t, "Part of the other kind", Part(s, a, !k.Block), nil)
		}
	}
}

func TestPartOfNoSchema(t *testing.T) {
	for _, s := range []*schema.Schema{nil, {}, made(t, nil)} {
		for _, set := range append(subsets(wide()), setOf(good(), 0), setOf(full(), 0), nil, []api.Attr{}) {
			checkPart(t, s, nil, set)
		}
	}
	for _, set := range [][]api.Attr{nil, {}} {
		checkPart(t, made(t, full()), full(), set)
	}
}

// someLists are lists of all sorts, many of which are no sets, and of which no two are the same, but the first three.
func someLists() [][]api.Attr {
	a, b := api.Attr{Key: 1, Value: value.Int(2)}, api.Attr{Key: 2, Value: value.Flag(true)}
	l := [][]api.Attr{nil, {}, wide()[:0], {a}, {b}, {a, a}, {a, b}, {b, a}, {b, b}, {a, b, a}, {b, a, b}, {{}}, {{}, {}}, {{}, a}, {a, {}}}
	for _, c := range []api.Attr{
		{Key: 1}, {Key: 1 + 1<<32, Value: a.Value}, {Key: -1, Value: a.Value},
		{Key: 1, Value: api.Value{Kind: 1, N: 2}}, {Key: 1, Value: api.Value{Kind: 2}}, {Key: 1, Value: api.Value{Kind: 2, N: 2 + 1<<32}}, {Key: 1, Value: api.Value{Kind: 2, N: -2}},
		{Key: 1, Value: api.Value{Kind: 2, N: 2, F: 1}}, {Key: 1, Value: api.Value{Kind: 2, N: 2, F: 1 << 63}}, {Key: 1, Value: api.Value{Kind: 2, N: 2, S: "a"}}, {Key: 1, Value: api.Value{Kind: 2, N: 2, S: "\x00"}},
		{Key: 1, Value: api.Value{Kind: 3, F: 1 << 63}}, {Key: 1, Value: api.Value{Kind: 3}}, {Key: 1, Value: api.Value{Kind: 3, F: api.NaN}}, {Key: 1, Value: api.Value{Kind: 3, F: api.NaN + 1}},
		{Key: 1, Value: api.Value{Kind: 4, S: "a"}}, {Key: 1, Value: api.Value{Kind: 4, S: "b"}}, {Key: 1, Value: api.Value{Kind: 4, S: "aa"}}, {Key: 1, Value: api.Value{Kind: 4}},
	} {
		l = append(l, []api.Attr{c}, []api.Attr{c, b}, []api.Attr{b, c}, []api.Attr{b, c, b})
	}
	for n := 60; n < 70; n++ {
		l = append(l, numbered(0, n), numbered(1, n), slices.Repeat([]api.Attr{a}, n))
	}
	return append(l, wide(), setOf(good(), 0), setOf(good(), 1), setOf(full(), 0), numbered(7, 5000))
}

// TestSameOfAllPairs asks of each two lists both ways round, and of each and one like it in other memory.
func TestSameOfAllPairs(t *testing.T) {
	ones, others := someLists(), someLists()
	for i, a := range ones {
		for j, b := range others {
			want := i == j || i < 3 && j < 3
			if want != alike(a, b) {
				t.Fatalf("the lists %d and %d: %.200v and %.200v", i, j, a, b)
			}
			if Same(a, b) != want || Same(b, a) != want || Same(a, ones[j]) != want {
				t.Fatalf("Same of %.200v and %.200v: %v, %v, %v; want %v", a, b, Same(a, b), Same(b, a), Same(a, ones[j]), want)
			}
		}
	}
}

// TestSameButOne changes of 64 attributes each, in each of its fields.
func TestSameButOne(t *testing.T) {
	set := setOf(full(), 0)
	for i := range set {
		for field := range 5 {
			other := slices.Clone(set)
			switch field {
			case 0:
				other[i].Key++
			case 1:
				other[i].Value.Kind++
			case 2:
				other[i].Value.N++
			case 3:
				other[i].Value.F ^= 1 << 63
			case 4:
				other[i].Value.S += "a"
			}
			if Same(set, other) || Same(other, set) || !Same(other, slices.Clone(other)) {
				t.Errorf("Same of two sets of which the attribute %d differs in the field %d", i, field)
			}
		}
		if Same(set, set[:i]) || Same(set[:i], set) {
			t.Errorf("Same of a set and the first %d of it", i)
		}
	}
}

func TestCopyOfAnyList(t *testing.T) {
	for _, l := range someLists() {
		checkSet(t, "Copy", Copy(l), l)
		if !Same(Copy(l), l) || !Same(l, Copy(Copy(l))) {
			t.Errorf("Same of %.200v and its copy", l)
		}
	}
}

// What holds of all.

// all calls each function with the set, and hands out the lists that are answered; it puts in another value, and the one that is there.
func all(s *schema.Schema, set []api.Attr, key int) [][]api.Attr {
	May(s, set)
	Same(set, set)
	v, _ := Get(set, key)
	with, again := With(set, api.Attr{Key: key, Value: value.Int(1)}), With(set, api.Attr{Key: key, Value: v})
	return [][]api.Attr{with, again, Without(set, key), Part(s, set, false), Part(s, set, true), Copy(set)}
}

// TestListsThatDoNotRise: with lists whose keys do not rise all calls end, and none panics.
func TestListsThatDoNotRise(t *testing.T) {
	s := made(t, good())
	of := []api.Attr{{Key: math.MinInt, Value: value.Int(1)}, {Key: 1}, {Key: 7, Value: value.Flag(true)}, {Key: math.MaxInt, Value: value.Int(2)}}
	rows := [][]api.Attr{slices.Repeat(of, 999), slices.Repeat(of[1:2], 4097), make([]api.Attr, 1<<16)}
	for n := range 6 {
		rows = append(rows, lists(of, n)...)
	}
	for n := range 70 {
		falling := numbered(-n, n)
		slices.Reverse(falling)
		rows = append(rows, falling, slices.Concat(numbered(0, n), numbered(0, n)))
	}
	for _, row := range rows {
		for _, key := range []int{math.MinInt, 0, 1, 2, 7, 8, math.MaxInt} {
			for _, s := range []*schema.Schema{s, nil} {
				all(s, row, key)
			}
		}
	}
}

// TestHandedInIsNotWrittenTo asks of the list, and of what stands behind it in its memory.
func TestHandedInIsNotWrittenTo(t *testing.T) {
	s := made(t, good())
	for _, row := range [][]api.Attr{wide(), setOf(good(), 0), numbered(-3, 70), {{Key: 7}, {Key: 1}, {Key: 7}}} {
		for n := range len(row) + 1 {
			for _, key := range []int{math.MinInt, -4, -1, 0, 1, 2, 5, 7, 1000, 1001, math.MaxInt} {
				handed := slices.Clone(row)
				all(s, handed[:n], key)
				if !alike(handed, row) {
					t.Fatalf("with %d attributes and the key %d was written to %+v: %+v", n, key, row, handed)
				}
			}
		}
	}
}

// TestHandedInMayBeWrittenOver writes over the list behind the call: what was answered stays.
func TestHandedInMayBeWrittenOver(t *testing.T) {
	s := made(t, good())
	for _, row := range [][]api.Attr{wide(), setOf(good(), 0), setOf(good(), 0)[:3], setOf(good(), 0)[7:], nil} {
		for _, key := range someKeys() {
			handed, want := slices.Clone(row), all(s, slices.Clone(row), key)
			for i, l := range want {
				want[i] = slices.Clone(l)
			}
			got := all(s, handed, key)
			for i := range handed {
				handed[i] = api.Attr{Key: 500 + i, Value: value.Int(77)}
			}
			for i, l := range got {
				checkSet(t, "what was answered, behind writing over what was handed in", l, want[i])
			}
		}
	}
}

// TestAnswersMayBeWrittenOver writes over each answer, and behind it: what was handed in stays, and what else was answered.
func TestAnswersMayBeWrittenOver(t *testing.T) {
	s := made(t, good())
	for _, row := range [][]api.Attr{wide(), setOf(good(), 0), setOf(good(), 0)[:3], setOf(good(), 0)[7:]} {
		for n := range len(row) + 1 {
			for _, key := range someKeys() {
				handed := slices.Clone(row)
				others, want := all(s, handed[:n], key), all(s, slices.Clone(row)[:n], key)
				for _, l := range all(s, handed[:n], key) {
					l = l[:cap(l)]
					for i := range l {
						l[i] = api.Attr{Key: 500 + i, Value: value.Int(77)}
					}
				}
				checkSet(t, "what was handed in, behind writing over what was answered", handed, row)
				for i, l := range others {
					checkSet(t, "what else was answered, behind writing over what was answered", l, want[i])
				}
			}
		}
	}
}

// TestCopyGoesItsOwnWay writes over each attribute of a set, and of its copy, and puts more behind both.
func TestCopyGoesItsOwnWay(t *testing.T) {
	for n := range 65 {
		room := setOf(full(), 0)
		set := room[:n]
		for i := range set {
			c := Copy(set)
			c[i] = api.Attr{Key: 77, Value: value.Int(77)}
			checkSet(t, "the set, behind writing over its copy", set, setOf(full(), 0)[:n])
			d := Copy(set)
			set[i] = api.Attr{Key: 78, Value: value.Int(78)}
			checkSet(t, "the copy, behind writing over the set", d, setOf(full(), 0)[:n])
			set[i] = setOf(full(), 0)[i]
		}
		_ = append(Copy(set), api.Attr{Key: 79})
		checkSet(t, "the set's memory, behind putting more behind its copy", room, setOf(full(), 0))
	}
}

// TestSchemaStays: asking of sets changes no schema, and asking again tells the same.
func TestSchemaStays(t *testing.T) {
	s := made(t, good())
	for _, set := range subsets(setOf(good(), 0)) {
		for range 3 {
			checkMay(t, s, set, api.OK)
			checkMay(t, s, withOf(set, api.Attr{Key: 2, Value: value.Int(1)}), api.ErrKey)
			checkPart(t, s, good(), set)
		}
	}
	if !slices.Equal(s.Keys(), good()) {
		t.Errorf("the schema's keys: %+v", s.Keys())
	}
}
