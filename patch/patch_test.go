package patch

import (
	"math"
	"slices"
	"strings"
	"testing"

	"rubric/api"
	"rubric/attrs"
	"rubric/schema"
	"rubric/value"
)

// The model: the chapter's words, said of each key alone, of lists that are gone over from end to end.

// isGood tells apart the values of the tests alone; TestRowsOfTheTests holds it against layer 3.
func isGood(v api.Value) bool {
	return slices.Contains(goodValues(), v)
}

func isMalformed(p []api.Change) bool {
	for i, c := range p {
		falls := slices.ContainsFunc(p[:i], func(o api.Change) bool { return o.Key >= c.Key })
		if falls || c.Gone && c.Value != (api.Value{}) || !c.Gone && !isGood(c.Value) {
			return true
		}
	}
	return len(p) > 64
}

func mayOf(keys []api.Key, p []api.Change) api.Errno {
	if isMalformed(p) {
		return api.ErrMalformed
	}
	for _, c := range p {
		if k, there := keyOf(keys, c.Key); !there || !c.Gone && k.Kind != c.Value.Kind {
			return api.ErrKey
		}
	}
	return api.OK
}

func keyOf(keys []api.Key, id int) (api.Key, bool) {
	for _, k := range keys {
		if k.ID == id {
			return k, true
		}
	}
	return api.Key{}, false
}

func attrOf(set []api.Attr, key int) (api.Attr, bool) {
	for _, a := range set {
		if a.Key == key {
			return a, true
		}
	}
	return api.Attr{}, false
}

func changeOf(p []api.Change, key int) (api.Change, bool) {
	for _, c := range p {
		if c.Key == key {
			return c, true
		}
	}
	return api.Change{}, false
}

// rising are all keys that one of them has, each once.
func rising(sets [][]api.Attr, patches ...[]api.Change) []int {
	var l []int
	for _, set := range sets {
		for _, a := range set {
			l = append(l, a.Key)
		}
	}
	for _, p := range patches {
		for _, c := range p {
			l = append(l, c.Key)
		}
	}
	slices.Sort(l)
	return slices.Compact(l)
}

func applyOf(set []api.Attr, p []api.Change) []api.Attr {
	var l []api.Attr
	for _, key := range rising([][]api.Attr{set}, p) {
		a, _ := attrOf(set, key)
		c, changed := changeOf(p, key)
		if changed {
			a = api.Attr{Key: key, Value: c.Value}
		}
		if !c.Gone {
			l = append(l, a)
		}
	}
	return l
}

func diffOf(a, b []api.Attr) []api.Change {
	var l []api.Change
	for _, key := range rising([][]api.Attr{a, b}) {
		x, inA := attrOf(a, key)
		y, inB := attrOf(b, key)
		if inA != inB || x.Value != y.Value {
			l = append(l, api.Change{Key: key, Gone: !inB, Value: y.Value})
		}
	}
	return l
}

func composeOf(p, q []api.Change) []api.Change {
	var l []api.Change
	for _, key := range rising(nil, p, q) {
		c, there := changeOf(q, key)
		if !there {
			c, _ = changeOf(p, key)
		}
		l = append(l, c)
	}
	return l
}

func invertOf(set []api.Attr, p []api.Change) []api.Change {
	var l []api.Change
	for _, c := range p {
		a, there := attrOf(set, c.Key)
		another, none, one := there && !c.Gone && a.Value != c.Value, !there && !c.Gone, there && c.Gone
		if another || none || one {
			l = append(l, api.Change{Key: c.Key, Gone: !there, Value: a.Value})
		}
	}
	return l
}

func only(p []api.Change, of func(api.Change) bool) []api.Change {
	var l []api.Change
	for _, c := range p {
		if of(c) {
			l = append(l, c)
		}
	}
	return l
}

func lessOf(p, q []api.Change) []api.Change {
	return only(p, func(c api.Change) bool {
		_, there := changeOf(q, c.Key)
		return !there
	})
}

func partOf(keys []api.Key, p []api.Change, block bool) []api.Change {
	return only(p, func(c api.Change) bool {
		k, there := keyOf(keys, c.Key)
		return there && k.Block == block
	})
}

// with has c in its key's place, in which there may have been another one.
func with(p []api.Change, c api.Change) []api.Change {
	l := append(only(p, func(o api.Change) bool { return o.Key < c.Key }), c)
	return append(l, only(p, func(o api.Change) bool { return o.Key > c.Key })...)
}

// alike takes no list that is nil for another one than an empty one.
func alike(p, q []api.Change) bool {
	if len(p) != len(q) {
		return false
	}
	for i := range p {
		v, w := p[i].Value, q[i].Value
		if p[i].Key != q[i].Key || p[i].Gone != q[i].Gone || v.Kind != w.Kind || v.N != w.N || v.F != w.F || v.S != w.S {
			return false
		}
	}
	return true
}

func asPatch(set []api.Attr) []api.Change {
	var p []api.Change
	for _, a := range set {
		p = append(p, api.Change{Key: a.Key, Value: a.Value})
	}
	return p
}

func asSet(p []api.Change) []api.Attr {
	var set []api.Attr
	for _, c := range p {
		if !c.Gone {
			set = append(set, api.Attr{Key: c.Key, Value: c.Value})
		}
	}
	return set
}

// The rows of the tests.

func valuesOf(kind uint8) []api.Value {
	switch kind {
	case 1:
		return []api.Value{{Kind: 1}, {Kind: 1, N: 1}}
	case 2:
		return []api.Value{{Kind: 2}, {Kind: 2, N: 1}, {Kind: 2, N: -1}, {Kind: 2, N: math.MinInt64}, {Kind: 2, N: math.MaxInt64}}
	case 3:
		return []api.Value{{Kind: 3}, {Kind: 3, F: 1 << 63}, {Kind: 3, F: math.Float64bits(1.5)}, {Kind: 3, F: math.Float64bits(math.Inf(-1))}, {Kind: 3, F: api.NaN}}
	}
	return []api.Value{{Kind: 4}, {Kind: 4, S: "a"}, {Kind: 4, S: "\u00e4\n"}, {Kind: 4, S: strings.Repeat("\u00e4", 32)}}
}

func goodValues() []api.Value {
	return slices.Concat(valuesOf(1), valuesOf(2), valuesOf(3), valuesOf(4))
}

// badValues are of each kind, of none, and of what is no kind.
func badValues() []api.Value {
	return []api.Value{
		{}, {N: 1}, {F: 1}, {S: "a"},
		{Kind: 1, N: 2}, {Kind: 1, N: -1}, {Kind: 1, F: 1}, {Kind: 1, S: "a"},
		{Kind: 2, F: 1}, {Kind: 2, N: 3, S: "a"},
		{Kind: 3, F: api.NaN + 1}, {Kind: 3, F: api.NaN | 1<<63}, {Kind: 3, N: 1}, {Kind: 3, S: "a"},
		{Kind: 4, S: "\xff"}, {Kind: 4, S: "\xc0\x80"}, {Kind: 4, S: strings.Repeat("a", 65)}, {Kind: 4, N: 1}, {Kind: 4, F: 1},
		{Kind: 5}, {Kind: 5, N: 1}, {Kind: 128}, {Kind: 255, S: "a"},
	}
}

// good are inline and block keys of each kind; 0, 2, 6, 1001 and others are none of them.
func good() []api.Key {
	return []api.Key{
		{ID: 1, Kind: 1, After: true},
		{ID: 3, Kind: 4, Before: true},
		{ID: 5, Kind: 2},
		{ID: 7, Block: true, Kind: 2, Group: 1},
		{ID: 9, Kind: 3, After: true, Before: true},
		{ID: 11, Block: true, Kind: 4, Group: 1},
		{ID: 12, Block: true, Kind: 1, After: true},
		{ID: 1000, Block: true, Kind: 3},
	}
}

// full are as many keys as may be, from 1 to 1000, inline ones and block ones of each kind among one another.
func full() []api.Key {
	var l []api.Key
	for i := range 64 {
		l = append(l, api.Key{ID: 1 + i*15 + i*6/7, Kind: uint8(i%4 + 1), Block: i%3 == 1 || i == 63})
	}
	return l
}

// someKeys are all that the chapter names, those beside them, and some that are one of those in fewer bits.
func someKeys() []int {
	l := []int{math.MinInt, math.MinInt + 1, -1 << 32, -1000, -2, 998, 999, 1000, 1001, 1002, 1 << 16, 1<<16 + 1, 1 << 32, 1<<32 + 1, 1<<32 + 1000, math.MaxInt - 1, math.MaxInt}
	for key := -1; key <= 20; key++ {
		l = append(l, key)
	}
	return l
}

func foreignKeys() []int {
	return slices.DeleteFunc(someKeys(), func(key int) bool {
		_, there := keyOf(good(), key)
		return there
	})
}

// goneWhere tells which changes of a row are Gone: none, all, or by turns.
func goneWhere() []func(i int) bool {
	return []func(i int) bool{
		func(i int) bool { return false },
		func(i int) bool { return true },
		func(i int) bool { return i%2 == 0 },
		func(i int) bool { return i%2 == 1 },
		func(i int) bool { return i%3 == 0 },
	}
}

// patchOf has a change of each of the keys, which is Gone, or has one of its values, which turn tells.
func patchOf(keys []api.Key, turn int, gone func(i int) bool) []api.Change {
	var l []api.Change
	for i, k := range keys {
		c := api.Change{Key: k.ID, Gone: gone(i)}
		if v := valuesOf(k.Kind); !c.Gone {
			c.Value = v[(i+turn)%len(v)]
		}
		l = append(l, c)
	}
	return l
}

func setOf(keys []api.Key, turn int) []api.Attr {
	return asSet(patchOf(keys, turn, goneWhere()[0]))
}

// numbered is n changes by rising keys, so far apart.
func numbered(first, step, n int, gone func(i int) bool) []api.Change {
	var l []api.Change
	for i := range n {
		c := api.Change{Key: first + step*i, Gone: gone(i)}
		if !c.Gone {
			c.Value = value.Int(int64(i))
		}
		l = append(l, c)
	}
	return l
}

// of2 are two values that are alike but in one field, of each kind by turns.
func of2(i int) []api.Value {
	switch i % 4 {
	case 0:
		return []api.Value{{Kind: 3}, {Kind: 3, F: 1 << 63}}
	case 1:
		return []api.Value{{Kind: 4}, {Kind: 4, S: "a"}}
	case 2:
		return []api.Value{{Kind: 1}, {Kind: 1, N: 1}}
	}
	return []api.Value{{Kind: 2, N: 1}, {Kind: 1, N: 1}}
}

// rowsOfKeys are keys ahead of, beside and behind those that a schema may have, and some that are one another's in fewer bits.
func rowsOfKeys() [][]int {
	return [][]int{{1, 2, 3, 4}, {math.MinInt, 0, 7, math.MaxInt}, {-1 << 32, -1, 1000, 1 << 32}, {7, 7 + 1<<8, 7 + 1<<16, 7 + 1<<32}}
}

// sets are all sets of some of these keys, each of which has one of two values.
func sets(keys []int) [][]api.Attr {
	l := [][]api.Attr{nil}
	for i, key := range keys {
		v := of2(i)
		for _, set := range l {
			l = append(l, append(slices.Clone(set), api.Attr{Key: key, Value: v[0]}), append(slices.Clone(set), api.Attr{Key: key, Value: v[1]}))
		}
	}
	return l
}

// patches are all patches of some of these keys, each of which is Gone, or has one of two values.
func patches(keys []int) [][]api.Change {
	l := [][]api.Change{nil}
	for i, key := range keys {
		v := of2(i)
		for _, p := range l {
			for _, c := range []api.Change{{Key: key, Gone: true}, {Key: key, Value: v[0]}, {Key: key, Value: v[1]}} {
				l = append(l, append(slices.Clone(p), c))
			}
		}
	}
	return l
}

// longRows are rows of many lengths that begin ahead of, within and behind one another, and end so, too; with keys that they share, and that stand between one another's.
func longRows() [][]api.Change {
	var l [][]api.Change
	for _, n := range []int{0, 1, 2, 7, 63, 64, 65, 130} {
		for _, first := range []int{-200, -1, 0, 1, 60} {
			for _, step := range []int{1, 2, 3} {
				l = append(l, numbered(first, step, n, goneWhere()[(first+step+n+200)%5]))
			}
		}
	}
	return l
}

// lists are all lists of these changes of that length, in whatever order, and however often each.
func lists(of []api.Change, n int) [][]api.Change {
	l := [][]api.Change{nil}
	for range n {
		var longer [][]api.Change
		for _, p := range l {
			for _, c := range of {
				longer = append(longer, append(slices.Clone(p), c))
			}
		}
		l = longer
	}
	return l
}

// Checks. Each test ends at its first fault: the rows are long, and what is wrong with one is wrong with many.

func made(t *testing.T, keys []api.Key) *schema.Schema {
	t.Helper()
	s, e := schema.New(keys)
	if e != api.OK {
		t.Fatalf("a schema of %+v: %d", keys, e)
	}
	return s
}

func checkMay(t *testing.T, s *schema.Schema, p []api.Change, want api.Errno) {
	t.Helper()
	if e := May(s, p); e != want {
		t.Fatalf("May of %.200v and %d changes %.600v: %d; want %d", s, len(p), p, e, want)
	}
}

func checkPatch(t *testing.T, what string, p, want []api.Change) {
	t.Helper()
	if !alike(p, want) {
		t.Fatalf("%s: %.600v; want %.600v", what, p, want)
	}
}

func checkSet(t *testing.T, what string, set, want []api.Attr) {
	t.Helper()
	if !alike(asPatch(set), asPatch(want)) {
		t.Fatalf("%s: %.600v; want %.600v", what, set, want)
	}
}

// checkOnSet holds all that is asked of a set and a patch against the model, and what follows of it.
func checkOnSet(t *testing.T, set []api.Attr, p []api.Change) {
	t.Helper()
	after, back := Apply(set, p), Invert(set, p)
	checkSet(t, "Apply", after, applyOf(set, p))
	checkPatch(t, "Invert", back, invertOf(set, p))
	checkSet(t, "Apply of Invert behind Apply", Apply(after, back), set)
	checkPatch(t, "Diff of what Apply makes, and the set", Diff(after, set), back)
	checkSet(t, "Apply behind Invert again", Apply(Apply(after, back), p), after)
}

func checkSets(t *testing.T, a, b []api.Attr) {
	t.Helper()
	diff := Diff(a, b)
	checkPatch(t, "Diff", diff, diffOf(a, b))
	checkSet(t, "Apply of Diff", Apply(a, diff), b)
	checkPatch(t, "Diff the other way round, and Invert of Diff", Diff(b, a), Invert(a, diff))
}

func checkPatches(t *testing.T, p, q []api.Change) {
	t.Helper()
	checkPatch(t, "Compose", Compose(p, q), composeOf(p, q))
	checkPatch(t, "Less", Less(p, q), lessOf(p, q))
	leftOut := Less(p, Less(p, q))
	checkPatch(t, "what Less leaves out", leftOut, only(p, func(c api.Change) bool {
		_, there := changeOf(q, c.Key)
		return there
	}))
	checkPatch(t, "what Less answers, and what it leaves out", Compose(Less(p, q), leftOut), p)
	checkPatch(t, "Compose of what Less answers", Compose(q, Less(p, q)), Compose(p, q))
}

func checkPart(t *testing.T, s *schema.Schema, keys []api.Key, p []api.Change) {
	t.Helper()
	for _, block := range []bool{false, true} {
		checkPatch(t, "Part", Part(s, p, block), partOf(keys, p, block))
	}
}

func TestExamples(t *testing.T) {
	a := []api.Attr{{Key: 1, Value: value.Int(2)}, {Key: 3, Value: value.Int(4)}}
	b := []api.Attr{{Key: 3, Value: value.Int(5)}}
	checkPatch(t, "Diff", Diff(a, b), []api.Change{{Key: 1, Gone: true}, {Key: 3, Value: value.Int(5)}})
	p := []api.Change{{Key: 1, Value: value.Int(2)}, {Key: 3, Gone: true}}
	checkPatch(t, "Compose", Compose(p, []api.Change{{Key: 1, Gone: true}}), []api.Change{{Key: 1, Gone: true}, {Key: 3, Gone: true}})
	checkPatch(t, "Invert", Invert(a[1:], p), []api.Change{{Key: 1, Gone: true}, {Key: 3, Value: value.Int(4)}})
}

// The rows that the tests hold the package against are held against the layers below, and the chapter's words.
func TestRowsOfTheTests(t *testing.T) {
	for _, v := range goodValues() {
		if !value.May(v) {
			t.Errorf("%+v should be a value", v)
		}
	}
	for _, v := range badValues() {
		if value.May(v) || isGood(v) {
			t.Errorf("%+v should be no value", v)
		}
	}
	keys := full()
	if len(keys) != 64 || keys[0].ID != 1 || keys[63].ID != 1000 || made(t, keys).Len() != 64 {
		t.Errorf("%+v should be 64 keys from 1 to 1000", keys)
	}
	for _, keys := range rowsOfKeys() {
		if !slices.IsSorted(keys) || len(sets(keys)) != 81 || len(patches(keys)) != 256 {
			t.Errorf("%v: %d sets, %d patches", keys, len(sets(keys)), len(patches(keys)))
		}
	}
	for i := range 4 {
		if v := of2(i); v[0] == v[1] || !isGood(v[0]) || !isGood(v[1]) {
			t.Errorf("%+v should be two values", v)
		}
	}
}

// P6.1

func TestMayOfNoChange(t *testing.T) {
	for _, s := range []*schema.Schema{nil, {}, made(t, nil), made(t, good()), made(t, full())} {
		checkMay(t, s, nil, api.OK)
		checkMay(t, s, []api.Change{}, api.OK)
		checkMay(t, s, numbered(1, 1, 9, goneWhere()[1])[:0], api.OK)
	}
}

// TestMayByTheirNumber asks of each number of changes up to 64, from either end, and with each one left out.
func TestMayByTheirNumber(t *testing.T) {
	s := made(t, full())
	for turn := range 20 {
		for _, gone := range goneWhere() {
			p := patchOf(full(), turn, gone)
			for n := range 65 {
				checkMay(t, s, p[:n], api.OK)
				checkMay(t, s, p[64-n:], api.OK)
			}
			for i := range p {
				checkMay(t, s, slices.Delete(slices.Clone(p), i, i+1), api.OK)
			}
		}
	}
}

// TestMayOfEachPartOfAPatch asks of all patches of eight keys, each of which is left out, is Gone, or has a value.
func TestMayOfEachPartOfAPatch(t *testing.T) {
	s := made(t, good())
	for turn := range 3 {
		all := [][]api.Change{nil}
		for _, c := range patchOf(good(), turn, goneWhere()[0]) {
			for _, p := range all {
				all = append(all, append(slices.Clone(p), c), append(slices.Clone(p), api.Change{Key: c.Key, Gone: true}))
			}
		}
		for _, p := range all {
			checkMay(t, s, p, api.OK)
		}
	}
}

// TestTooManyChanges: of 64 that are well-formed ErrKey is told, of one more ErrMalformed, whatever they are, and whether they are Gone.
func TestTooManyChanges(t *testing.T) {
	s := made(t, full())
	for _, gone := range goneWhere() {
		for _, first := range []int{-70, -1, 0, 1, 2000} {
			checkMay(t, s, numbered(first, 2, 63, gone), api.ErrKey)
			checkMay(t, s, numbered(first, 2, 64, gone), api.ErrKey)
			for _, n := range []int{65, 66, 127, 128, 129, 256, 257, 1000, 1<<16 + 1} {
				checkMay(t, s, numbered(first, 2, n, gone), api.ErrMalformed)
				checkMay(t, nil, numbered(first, 2, n, gone), api.ErrMalformed)
			}
		}
		p := patchOf(full(), 0, gone)
		for i := range 65 {
			for _, c := range []api.Change{{Key: i*16 - 1, Gone: true}, {Key: i*16 - 1, Value: value.Int(1)}} {
				more := append(slices.Clone(p), c)
				slices.SortFunc(more, func(a, b api.Change) int { return a.Key - b.Key })
				checkMay(t, s, more, api.ErrMalformed)
			}
		}
		checkMay(t, s, append(slices.Clone(p), api.Change{Key: 1001, Gone: true}), api.ErrMalformed)
		checkMay(t, s, slices.Repeat(p, 2), api.ErrMalformed)
	}
	checkMay(t, s, make([]api.Change, 65), api.ErrMalformed)
	checkMay(t, s, make([]api.Change, 1<<20), api.ErrMalformed)
}

// TestMayOfEachValue lays each value, of a key that is Gone and not, with each key, ahead of, between and behind changes that may be.
func TestMayOfEachValue(t *testing.T) {
	s := made(t, good())
	for _, v := range slices.Concat(goodValues(), badValues()) {
		for turn, among := range goneWhere() {
			p := patchOf(good(), turn, among)
			for _, gone := range []bool{false, true} {
				for i := range p {
					one := slices.Clone(p)
					one[i].Gone, one[i].Value = gone, v
					for _, part := range [][]api.Change{one[i : i+1], one, one[:i+1], one[i:]} {
						checkMay(t, s, part, mayOf(good(), part))
					}
				}
				for _, key := range someKeys() {
					alone := []api.Change{{Key: key, Gone: gone, Value: v}}
					checkMay(t, s, alone, mayOf(good(), alone))
					more := with(p, alone[0])
					checkMay(t, s, more, mayOf(good(), more))
				}
			}
		}
	}
}

func TestMayInWords(t *testing.T) {
	s := made(t, good())
	flag, number, text := value.Flag(true), value.Int(2), api.Value{Kind: api.ValText, S: "a"}
	cases := []struct {
		p    []api.Change
		want api.Errno
	}{
		{[]api.Change{{Key: 1, Value: flag}}, api.OK},
		{[]api.Change{{Key: 1, Gone: true}}, api.OK},
		{[]api.Change{{Key: 1, Value: flag}, {Key: 7, Value: number}, {Key: 11, Value: text}}, api.OK}, // inline keys and block keys together, two of one group
		{[]api.Change{{Key: 1, Value: number}}, api.ErrKey},                                            // a value of another kind
		{[]api.Change{{Key: 2, Value: flag}}, api.ErrKey},                                              // no such key
		{[]api.Change{{Key: 2, Gone: true}}, api.ErrKey},                                               // likewise
		{[]api.Change{{Key: 0, Gone: true}}, api.ErrKey},                                               // likewise
		{[]api.Change{{Key: -5, Gone: true}}, api.ErrKey},                                              // likewise
		{[]api.Change{{Key: 1001, Gone: true}}, api.ErrKey},                                            // likewise
		{[]api.Change{{Key: 1}}, api.ErrMalformed},                                                     // neither Gone nor a value
		{[]api.Change{{Key: 2}}, api.ErrMalformed},                                                     // likewise, and no key
		{[]api.Change{{}}, api.ErrMalformed},                                                           // likewise
		{[]api.Change{{Key: 1, Gone: true, Value: flag}}, api.ErrMalformed},                            // Gone, with a value of its key's kind
		{[]api.Change{{Key: 1, Gone: true, Value: api.Value{Kind: 1}}}, api.ErrMalformed},              // likewise
		{[]api.Change{{Key: 2, Gone: true, Value: flag}}, api.ErrMalformed},                            // likewise, and no key
		{[]api.Change{{Key: 1, Gone: true, Value: api.Value{S: "a"}}}, api.ErrMalformed},
		{[]api.Change{{Key: 1, Gone: true, Value: api.Value{N: 1}}}, api.ErrMalformed},
		{[]api.Change{{Key: 1, Gone: true, Value: api.Value{F: 1 << 63}}}, api.ErrMalformed},
		{[]api.Change{{Key: 2, Gone: true}, {Key: 5, Value: api.Value{Kind: 2, S: "a"}}}, api.ErrMalformed}, // what is malformed ahead of what is no key
		{[]api.Change{{Key: 2, Value: flag}, {Key: 5, Gone: true, Value: number}}, api.ErrMalformed},
		{[]api.Change{{Key: 1, Value: number}, {Key: 1, Value: flag}}, api.ErrMalformed}, // one key twice
		{[]api.Change{{Key: 1, Gone: true}, {Key: 1, Gone: true}}, api.ErrMalformed},
		{[]api.Change{{Key: 1, Gone: true}, {Key: 1, Value: flag}}, api.ErrMalformed},
		{[]api.Change{{Key: 3, Gone: true}, {Key: 1, Value: flag}}, api.ErrMalformed}, // keys that fall
		{[]api.Change{{Key: 3, Value: text}, {Key: 1, Gone: true}}, api.ErrMalformed},
		{[]api.Change{{Key: 1, Value: flag}, {Key: 7, Gone: true}, {Key: 5, Value: number}}, api.ErrMalformed},
		{[]api.Change{{Key: math.MaxInt, Gone: true}, {Key: math.MinInt, Gone: true}}, api.ErrMalformed},
		{[]api.Change{{Key: math.MinInt, Gone: true}, {Key: math.MaxInt, Gone: true}}, api.ErrKey},
	}
	for _, c := range cases {
		checkMay(t, s, c.p, c.want)
	}
}

// TestKeysThatDoNotRise has of a patch of all keys each two in each other's place, and each key at each other place, too.
func TestKeysThatDoNotRise(t *testing.T) {
	s := made(t, full())
	for turn, gone := range goneWhere() {
		p := patchOf(full(), turn, gone)
		for i := range p {
			for j := range p {
				if i == j {
					continue
				}
				turned := slices.Clone(p)
				turned[i], turned[j] = p[j], p[i]
				checkMay(t, s, turned, api.ErrMalformed)
				checkMay(t, s, turned[min(i, j):max(i, j)+1], api.ErrMalformed)
				twice := slices.Clone(p)
				twice[i] = p[j]
				checkMay(t, s, twice, api.ErrMalformed)
				moved := slices.Insert(slices.Delete(slices.Clone(p), i, i+1), j, p[i])
				checkMay(t, s, moved, api.ErrMalformed)
			}
		}
		slices.Reverse(p)
		checkMay(t, s, p, api.ErrMalformed)
	}
}

// TestOneKeyTwice lays each change beside itself, and beside another one of its key, of keys that are the schema's and not.
func TestOneKeyTwice(t *testing.T) {
	s := made(t, good())
	for _, key := range someKeys() {
		of := []api.Change{{Key: key, Gone: true}}
		for _, v := range goodValues() {
			of = append(of, api.Change{Key: key, Value: v})
		}
		for _, p := range lists(of, 2) {
			checkMay(t, s, p, api.ErrMalformed)
		}
	}
	for turn, gone := range goneWhere() {
		p := patchOf(good(), turn, gone)
		for i := range p {
			for _, c := range []api.Change{p[i], {Key: p[i].Key, Gone: true}, {Key: p[i].Key, Value: value.Int(9)}} {
				checkMay(t, s, slices.Insert(slices.Clone(p), i, c), api.ErrMalformed)
			}
		}
	}
}

// TestMalformedAheadOfKey lays at two places of a patch what is ErrKey alone, and what is ErrMalformed alone: the latter is told, whichever comes first.
func TestMalformedAheadOfKey(t *testing.T) {
	s := made(t, full())
	p := patchOf(full(), 0, goneWhere()[2])
	for i := range 64 {
		for j := range 64 {
			if i == j {
				continue
			}
			foreign, gone, other := slices.Clone(p), slices.Clone(p), slices.Clone(p)
			foreign[i].Key++ // between two keys of the schema, or behind the last one
			gone[i] = api.Change{Key: p[i].Key + 1, Gone: true}
			other[i].Gone, other[i].Value = false, valuesOf(uint8((i+1)%4 + 1))[0]
			for _, l := range [][]api.Change{foreign, gone, other} {
				checkMay(t, s, l, api.ErrKey)
				bad := slices.Clone(l)
				bad[j].Gone, bad[j].Value = false, badValues()[(i+j)%len(badValues())]
				checkMay(t, s, bad, api.ErrMalformed)
				both := slices.Clone(l)
				both[j].Gone, both[j].Value = true, goodValues()[(i+j)%len(goodValues())]
				checkMay(t, s, both, api.ErrMalformed)
				twice := slices.Clone(l)
				twice[j].Key = l[(j+1)%64].Key
				checkMay(t, s, twice, api.ErrMalformed)
			}
		}
	}
}

// TestMayOfAllShortLists holds May against the chapter's words at all lists of up to three changes, with errors of all sorts among them.
func TestMayOfAllShortLists(t *testing.T) {
	var of []api.Change
	for _, key := range []int{-1, 0, 1, 2, 7, 1000, 1001} {
		for _, v := range []api.Value{{}, {Kind: 1, N: 1}, {Kind: 1, N: 2}, {Kind: 2, N: 1}, {Kind: 3}, {Kind: 4, S: "a"}} {
			of = append(of, api.Change{Key: key, Value: v})
		}
		of = append(of, api.Change{Key: key, Gone: true}, api.Change{Key: key, Gone: true, Value: value.Flag(false)})
	}
	s := made(t, good())
	for n := range 4 {
		for _, p := range lists(of, n) {
			checkMay(t, s, p, mayOf(good(), p))
		}
	}
}

// TestMayOfNoSchema: a schema that is not there, and a zero one, have no keys; what is malformed is told all the same.
func TestMayOfNoSchema(t *testing.T) {
	for _, s := range []*schema.Schema{nil, {}, made(t, nil)} {
		for _, key := range someKeys() {
			for _, v := range goodValues() {
				checkMay(t, s, []api.Change{{Key: key, Value: v}}, api.ErrKey)
				checkMay(t, s, []api.Change{{Key: key, Gone: true, Value: v}}, api.ErrMalformed)
			}
			for _, v := range badValues() {
				checkMay(t, s, []api.Change{{Key: key, Value: v}}, api.ErrMalformed)
			}
			checkMay(t, s, []api.Change{{Key: key, Gone: true}}, api.ErrKey)
			checkMay(t, s, []api.Change{{Key: key, Gone: true}, {Key: key, Gone: true}}, api.ErrMalformed)
		}
		for turn, gone := range goneWhere() {
			checkMay(t, s, patchOf(good(), turn, gone), api.ErrKey)
			checkMay(t, s, patchOf(full(), turn, gone), api.ErrKey)
		}
	}
}

// someLists are lists of all sorts, many of which are no patches, and of which no two are the same, but the first three.
func someLists() [][]api.Change {
	a, b := api.Change{Key: 1, Value: value.Int(2)}, api.Change{Key: 2, Gone: true}
	l := [][]api.Change{nil, {}, numbered(1, 1, 9, goneWhere()[0])[:0], {a}, {b}, {a, a}, {a, b}, {b, a}, {b, b}, {a, b, a}, {b, a, b}, {{}}, {{}, {}}, {{}, a}, {a, {}}}
	for _, c := range []api.Change{
		{Key: 1}, {Key: 1, Gone: true}, {Key: 1, Gone: true, Value: a.Value}, {Key: 1 + 1<<32, Value: a.Value}, {Key: -1, Value: a.Value}, {Key: 2}, {Key: -2, Gone: true}, {Key: 2, Gone: true, Value: a.Value},
		{Key: 1, Value: api.Value{Kind: 1, N: 2}}, {Key: 1, Value: api.Value{Kind: 2}}, {Key: 1, Value: api.Value{Kind: 2, N: 2 + 1<<32}}, {Key: 1, Value: api.Value{Kind: 2, N: -2}},
		{Key: 1, Value: api.Value{Kind: 2, N: 2, F: 1}}, {Key: 1, Value: api.Value{Kind: 2, N: 2, F: 1 << 63}}, {Key: 1, Value: api.Value{Kind: 2, N: 2, S: "a"}}, {Key: 1, Value: api.Value{Kind: 2, N: 2, S: "\x00"}},
		{Key: 1, Value: api.Value{Kind: 3, F: 1 << 63}}, {Key: 1, Value: api.Value{Kind: 3}}, {Key: 1, Value: api.Value{Kind: 3, F: api.NaN}}, {Key: 1, Value: api.Value{Kind: 3, F: api.NaN + 1}},
		{Key: 1, Value: api.Value{Kind: 4, S: "a"}}, {Key: 1, Value: api.Value{Kind: 4, S: "b"}}, {Key: 1, Value: api.Value{Kind: 4, S: "aa"}}, {Key: 1, Value: api.Value{Kind: 4}},
	} {
		l = append(l, []api.Change{c}, []api.Change{c, b}, []api.Change{b, c}, []api.Change{b, c, b})
	}
	for n := 60; n < 70; n++ {
		l = append(l, numbered(0, 2, n, goneWhere()[0]), numbered(1, 2, n, goneWhere()[0]), numbered(0, 2, n, goneWhere()[1]), slices.Repeat([]api.Change{a}, n), slices.Repeat([]api.Change{b}, n))
	}
	for _, gone := range goneWhere() {
		l = append(l, patchOf(good(), 0, gone), patchOf(full(), 0, gone), numbered(7, 2, 5000, gone))
	}
	return append(l, patchOf(good(), 1, goneWhere()[0]))
}

// TestSameOfAllPairs asks of each two lists both ways round, and of each and one like it in other memory.
func TestSameOfAllPairs(t *testing.T) {
	ones, others := someLists(), someLists()
	for i, p := range ones {
		for j, q := range others {
			want := i == j || i < 3 && j < 3
			if want != alike(p, q) {
				t.Fatalf("the lists %d and %d: %.200v and %.200v", i, j, p, q)
			}
			if Same(p, q) != want || Same(q, p) != want || Same(p, ones[j]) != want {
				t.Fatalf("Same of %.200v and %.200v: %v, %v, %v; want %v", p, q, Same(p, q), Same(q, p), Same(p, ones[j]), want)
			}
		}
	}
}

// TestSameButOne changes of 64 changes each, in each of its fields.
func TestSameButOne(t *testing.T) {
	p := patchOf(full(), 0, goneWhere()[4])
	for i := range p {
		for field := range 6 {
			other := slices.Clone(p)
			switch field {
			case 0:
				other[i].Key++
			case 1:
				other[i].Gone = !other[i].Gone
			case 2:
				other[i].Value.Kind++
			case 3:
				other[i].Value.N++
			case 4:
				other[i].Value.F ^= 1 << 63
			case 5:
				other[i].Value.S += "a"
			}
			if Same(p, other) || Same(other, p) || !Same(other, slices.Clone(other)) {
				t.Errorf("Same of two patches of which the change %d differs in the field %d", i, field)
			}
		}
		if Same(p, p[:i]) || Same(p[:i], p) {
			t.Errorf("Same of a patch and the first %d of it", i)
		}
	}
}

func TestCopyOfAnyList(t *testing.T) {
	for _, l := range someLists() {
		checkPatch(t, "Copy", Copy(l), l)
		if !Same(Copy(l), l) || !Same(l, Copy(Copy(l))) {
			t.Errorf("Same of %.200v and its copy", l)
		}
	}
}

// P6.2 to P6.4, said of all short rows, of long ones, and of each value.

func TestAllShortPatchesOnAllShortSets(t *testing.T) {
	for _, keys := range rowsOfKeys() {
		for _, set := range sets(keys) {
			for _, p := range patches(keys) {
				checkOnSet(t, set, p)
			}
		}
	}
}

func TestAllPairsOfShortSets(t *testing.T) {
	for _, keys := range rowsOfKeys() {
		for _, a := range sets(keys) {
			for _, b := range sets(keys) {
				checkSets(t, a, b)
			}
		}
	}
}

func TestAllPairsOfShortPatches(t *testing.T) {
	for _, keys := range rowsOfKeys() {
		for _, p := range patches(keys) {
			for _, q := range patches(keys) {
				checkPatches(t, p, q)
			}
		}
	}
}

// TestPairsOfLongRows has rows up to 130 long, that are more than a schema's, and of which each begins and ends ahead of, at, between and behind the others' keys.
func TestPairsOfLongRows(t *testing.T) {
	for _, p := range longRows() {
		for _, q := range longRows() {
			checkPatch(t, "Compose", Compose(p, q), composeOf(p, q))
			checkPatch(t, "Less", Less(p, q), lessOf(p, q))
			a, b := asSet(p), asSet(q)
			checkSet(t, "Apply", Apply(a, q), applyOf(a, q))
			checkPatch(t, "Invert", Invert(a, q), invertOf(a, q))
			checkPatch(t, "Diff", Diff(a, b), diffOf(a, b))
		}
	}
}

// TestRowsOfThousands goes by what is known of the rows, not by the model, which is slow.
func TestRowsOfThousands(t *testing.T) {
	const n = 1 << 16
	even, odd, all := numbered(0, 2, n, goneWhere()[0]), numbered(1, 2, n, goneWhere()[1]), numbered(0, 1, 2*n, goneWhere()[1])
	both := Compose(odd, even)
	checkPatch(t, "Compose the other way round", Compose(even, odd), both)
	for i, c := range both {
		if c.Key != i || c.Gone != (i%2 == 1) {
			t.Fatalf("Compose has at %d %+v", i, c)
		}
	}
	checkPatch(t, "Less", Less(both, odd), even)
	checkPatch(t, "Less of all", Less(both, all), nil)
	checkPatch(t, "Compose", Compose(both, all), all)
	set := asSet(even)
	checkSet(t, "Apply", Apply(set, odd), set)
	checkSet(t, "Apply of all", Apply(set, all), nil)
	checkPatch(t, "Invert", Invert(set, all), even)
	checkPatch(t, "Diff", Diff(set, nil), numbered(0, 2, n, goneWhere()[1]))
	checkPatch(t, "Diff from none", Diff(nil, set), even)
}

// TestEachValueBesideEachOther: values are alike just if their fields are: -0 and 0 are two, NaN is one.
func TestEachValueBesideEachOther(t *testing.T) {
	all := slices.Concat(goodValues(), badValues())
	for _, v := range all {
		for _, w := range all {
			a, b, p := []api.Attr{{Key: 5, Value: v}}, []api.Attr{{Key: 5, Value: w}}, []api.Change{{Key: 5, Value: w}}
			var diff, back []api.Change
			if v != w {
				diff, back = p, asPatch(a)
			}
			checkPatch(t, "Diff", Diff(a, b), diff)
			checkSet(t, "Apply", Apply(a, p), b)
			checkPatch(t, "Invert", Invert(a, p), back)
			checkPatch(t, "Compose", Compose(asPatch(a), p), p)
			checkPatch(t, "Less", Less(asPatch(a), p), nil)
		}
		a, gone := []api.Attr{{Key: 5, Value: v}}, []api.Change{{Key: 5, Gone: true}}
		checkPatch(t, "Diff from none", Diff(nil, a), asPatch(a))
		checkPatch(t, "Diff to none", Diff(a, nil), gone)
		checkSet(t, "Apply of Gone", Apply(a, gone), nil)
		checkSet(t, "Apply on none", Apply(nil, asPatch(a)), a)
		checkPatch(t, "Invert of Gone", Invert(a, gone), asPatch(a))
		checkPatch(t, "Invert on none", Invert(nil, asPatch(a)), gone)
		checkPatch(t, "Compose of both", Compose(asPatch(a), gone), gone)
		checkPatch(t, "Compose the other way round", Compose(gone, asPatch(a)), asPatch(a))
	}
}

// TestNothing has no list, and empty ones, on either side.
func TestNothing(t *testing.T) {
	set, p := setOf(good(), 1), patchOf(good(), 2, goneWhere()[4])
	gone := patchOf(good(), 0, goneWhere()[1])
	for _, none := range [][]api.Change{nil, {}, p[:0]} {
		for _, noSet := range [][]api.Attr{nil, {}, set[:0]} {
			checkSet(t, "Apply of no change", Apply(set, none), set)
			checkSet(t, "Apply on no set", Apply(noSet, p), asSet(p))
			checkSet(t, "Apply of none on none", Apply(noSet, none), nil)
			checkSet(t, "Apply of Gone on none", Apply(noSet, gone), nil)
			checkPatch(t, "Diff from none", Diff(noSet, set), asPatch(set))
			checkPatch(t, "Diff to none", Diff(set, noSet), gone)
			checkPatch(t, "Diff of none", Diff(noSet, nil), nil)
			checkPatch(t, "Diff of itself", Diff(set, slices.Clone(set)), nil)
			checkPatch(t, "Invert of no change", Invert(set, none), nil)
			checkPatch(t, "Invert on no set of what is Gone", Invert(noSet, gone), nil)
			checkPatch(t, "Invert on no set", Invert(noSet, asPatch(set)), gone)
			checkPatch(t, "Invert of what changes nothing", Invert(set, asPatch(set)), nil)
		}
		checkPatch(t, "Compose with none", Compose(p, none), p)
		checkPatch(t, "Compose of none", Compose(none, p), p)
		checkPatch(t, "Compose of none and none", Compose(none, nil), nil)
		checkPatch(t, "Less none", Less(p, none), p)
		checkPatch(t, "Less of none", Less(none, p), nil)
		checkPatch(t, "Less itself", Less(p, slices.Clone(p)), nil)
		checkPatch(t, "Part of none", Part(made(t, good()), none, true), nil)
		checkPatch(t, "Part of none", Part(made(t, good()), none, false), nil)
	}
}

// TestInvertInWords has of each sort of key one: what comes back is what the set had, or Gone, and nothing of what p leaves as it is.
func TestInvertInWords(t *testing.T) {
	one, two := value.Int(1), value.Int(2)
	cases := []struct {
		set  []api.Attr
		p    []api.Change
		want []api.Change
	}{
		{[]api.Attr{{Key: 5, Value: one}}, []api.Change{{Key: 5, Value: two}}, []api.Change{{Key: 5, Value: one}}},
		{[]api.Attr{{Key: 5, Value: one}}, []api.Change{{Key: 5, Value: one}}, nil},
		{[]api.Attr{{Key: 5, Value: one}}, []api.Change{{Key: 5, Gone: true}}, []api.Change{{Key: 5, Value: one}}},
		{nil, []api.Change{{Key: 5, Value: two}}, []api.Change{{Key: 5, Gone: true}}},
		{nil, []api.Change{{Key: 5, Gone: true}}, nil},
		{[]api.Attr{{Key: 5, Value: one}}, nil, nil},
		{[]api.Attr{{Key: 4, Value: one}, {Key: 6, Value: two}}, []api.Change{{Key: 5, Gone: true}}, nil},
		{[]api.Attr{{Key: 4, Value: one}, {Key: 6, Value: two}}, []api.Change{{Key: 3, Value: one}, {Key: 5, Value: two}, {Key: 7, Value: one}}, []api.Change{{Key: 3, Gone: true}, {Key: 5, Gone: true}, {Key: 7, Gone: true}}},
		{
			[]api.Attr{{Key: 1, Value: one}, {Key: 2, Value: one}, {Key: 3, Value: one}, {Key: 4, Value: one}},
			[]api.Change{{Key: 0, Value: two}, {Key: 1, Gone: true}, {Key: 2, Value: one}, {Key: 3, Value: two}, {Key: 5, Gone: true}},
			[]api.Change{{Key: 0, Gone: true}, {Key: 1, Value: one}, {Key: 3, Value: one}},
		},
	}
	for _, c := range cases {
		checkPatch(t, "Invert", Invert(c.set, c.p), c.want)
	}
}

// TestPatchesThatMayBe: what is made of what may be may be, too.
func TestPatchesThatMayBe(t *testing.T) {
	s := made(t, full())
	for turn := range 20 {
		for i, gone := range goneWhere() {
			set, other := setOf(full(), turn)[i:], setOf(full(), turn+i)[:64-2*i]
			p, q := patchOf(full(), turn+1, gone)[:60], patchOf(full(), turn+2, goneWhere()[(i+turn)%5])[3:]
			for _, l := range [][]api.Change{Diff(set, other), Compose(p, q), Invert(set, p), Less(p, q), Part(s, p, true), Part(s, p, false), Copy(p)} {
				checkMay(t, s, l, api.OK)
			}
			if e := attrs.May(s, Apply(set, p)); e != api.OK {
				t.Errorf("Apply of %+v on %+v: %d", p, set, e)
			}
			checkOnSet(t, set, p)
			checkSets(t, set, other)
			checkPatches(t, p, q)
		}
	}
}

// P6.3: Part

func TestPartOfEachPatch(t *testing.T) {
	s, wide := made(t, good()), made(t, full())
	for _, p := range patches([]int{1, 2, 7, 12, 1000, 1001}) {
		checkPart(t, s, good(), p)
	}
	for turn, gone := range goneWhere() {
		for n := range 65 {
			checkPart(t, wide, full(), patchOf(full(), turn, gone)[:n])
			checkPart(t, s, good(), patchOf(full(), turn, gone)[64-n:])
		}
		checkPart(t, s, good(), numbered(-20, 1, 2000, gone))
		checkPart(t, wide, full(), numbered(-20, 1, 2000, gone))
	}
	for _, keys := range rowsOfKeys() {
		for _, p := range patches(keys) {
			checkPart(t, s, good(), p)
		}
	}
}

// TestPartsTogether: both parts of a patch that may be are together the patch, whichever comes first, and neither has a key of the other one.
func TestPartsTogether(t *testing.T) {
	s := made(t, full())
	for turn, gone := range goneWhere() {
		for n := range 65 {
			p := patchOf(full(), turn, gone)[n/2 : n]
			inline, block := Part(s, p, false), Part(s, p, true)
			if len(inline)+len(block) != len(p) {
				t.Errorf("%d and %d changes of %d", len(inline), len(block), len(p))
			}
			checkPatch(t, "both parts together", Compose(inline, block), p)
			checkPatch(t, "both parts together", Compose(block, inline), p)
			checkPatch(t, "one less the other", Less(inline, block), inline)
			checkPatch(t, "the patch less one", Less(p, inline), block)
		}
	}
}

// TestPartOfForeignKeys: keys that are none of the schema's are in neither part, wherever they stand; those that are are asked for nothing but their keys.
func TestPartOfForeignKeys(t *testing.T) {
	s := made(t, good())
	p := patchOf(good(), 0, goneWhere()[3])
	for _, v := range slices.Concat(goodValues(), badValues()) {
		for _, gone := range []bool{false, true} {
			for _, key := range foreignKeys() {
				c := api.Change{Key: key, Gone: gone, Value: v}
				for _, block := range []bool{false, true} {
					checkPatch(t, "Part of a foreign key", Part(s, []api.Change{c}, block), nil)
					checkPatch(t, "Part with a foreign key", Part(s, with(p, c), block), partOf(good(), p, block))
				}
			}
			for _, k := range good() {
				c := []api.Change{{Key: k.ID, Gone: gone, Value: v}}
				checkPatch(t, "Part of its own kind", Part(s, c, k.Block), c)
				checkPatch(t, "Part of the other kind", Part(s, c, !k.Block), nil)
			}
		}
	}
}

func TestPartOfNoSchema(t *testing.T) {
	for _, s := range []*schema.Schema{nil, {}, made(t, nil)} {
		for _, gone := range goneWhere() {
			for _, p := range [][]api.Change{patchOf(good(), 0, gone), patchOf(full(), 0, gone), numbered(-3, 1, 70, gone), nil, {}} {
				checkPart(t, s, nil, p)
			}
		}
	}
}

// P6.4

// TestOneBehindTheOther does all two short patches to all short sets, one by one and composed, and takes both back.
func TestOneBehindTheOther(t *testing.T) {
	for _, keys := range rowsOfKeys()[:2] {
		for _, set := range sets(keys[:3]) {
			for _, p := range patches(keys[:3]) {
				between, back := Apply(set, p), Invert(set, p)
				for _, q := range patches(keys[:3]) {
					both := Compose(p, q)
					after := Apply(between, q)
					checkSet(t, "Apply of Compose", Apply(set, both), after)
					checkSet(t, "Apply of Invert of Compose", Apply(after, Invert(set, both)), set)
					checkSet(t, "Apply of both Inverts composed", Apply(after, Compose(Invert(between, q), back)), set)
				}
			}
		}
	}
}

// TestComposeByWayOfAnother: from a to b and on to c is from a to c.
func TestComposeByWayOfAnother(t *testing.T) {
	for _, keys := range rowsOfKeys() {
		l := sets(keys[:3])
		for _, a := range l {
			for _, b := range l {
				for _, c := range l {
					checkSet(t, "Apply of both Diffs composed", Apply(a, Compose(Diff(a, b), Diff(b, c))), c)
				}
			}
		}
	}
}

func TestComposeHangsOnNoBrackets(t *testing.T) {
	for _, keys := range rowsOfKeys()[:2] {
		l := patches(keys[:3])
		for _, p := range l {
			for _, q := range l {
				first := Compose(p, q)
				for _, r := range l {
					checkPatch(t, "Compose with brackets behind", Compose(p, Compose(q, r)), Compose(first, r))
				}
			}
		}
	}
}

// TestLongRowsOneBehindTheOther has longer rows than the others of P6.4, three at a time.
func TestLongRowsOneBehindTheOther(t *testing.T) {
	var l [][]api.Change
	for i, p := range longRows() {
		if i%7 == 0 {
			l = append(l, p)
		}
	}
	for _, p := range l {
		for _, q := range l {
			for _, r := range l {
				checkPatch(t, "Compose with brackets", Compose(p, Compose(q, r)), Compose(Compose(p, q), r))
				checkSet(t, "Apply of Compose", Apply(asSet(p), Compose(q, r)), Apply(Apply(asSet(p), q), r))
			}
			a, b := asSet(p), asSet(q)
			checkSet(t, "Apply of Diff", Apply(a, Diff(a, b)), b)
			checkSet(t, "Apply of Invert behind Apply", Apply(Apply(a, q), Invert(a, q)), a)
		}
	}
}

// What holds of all.

// all calls each function with the set and both patches, and hands out the lists that are answered.
func all(s *schema.Schema, set []api.Attr, p, q []api.Change) (sets [][]api.Attr, patches [][]api.Change) {
	May(s, p)
	Same(p, q)
	return [][]api.Attr{Apply(set, p), Apply(set, nil), Apply(nil, p)}, [][]api.Change{
		Diff(set, asSet(p)), Diff(set, nil), Diff(nil, set), Compose(p, q), Compose(p, nil), Compose(nil, p),
		Invert(set, p), Less(p, q), Less(p, nil), Part(s, p, false), Part(s, p, true), Copy(p)}
}

// TestListsThatDoNotRise: with lists whose keys do not rise all calls end, and none panics.
func TestListsThatDoNotRise(t *testing.T) {
	s := made(t, good())
	of := []api.Change{{Key: math.MinInt, Value: value.Int(1)}, {Key: 1}, {Key: 7, Gone: true}, {Key: math.MaxInt, Gone: true, Value: value.Int(2)}}
	rows := [][]api.Change{slices.Repeat(of, 99), slices.Repeat(of[1:2], 257), make([]api.Change, 1000), numbered(-3, 3, 70, goneWhere()[2])}
	for n := range 4 {
		rows = append(rows, lists(of, n)...)
	}
	for _, n := range []int{2, 5, 64, 69} {
		falling := numbered(-n, 2, n, goneWhere()[2])
		slices.Reverse(falling)
		rows = append(rows, falling, slices.Concat(numbered(0, 2, n, goneWhere()[4]), numbered(0, 2, n, goneWhere()[3])))
	}
	for _, p := range rows {
		for _, q := range rows {
			for _, s := range []*schema.Schema{s, nil} {
				all(s, asSet(p), q, p)
			}
		}
	}
}

// handed are a set and two patches, with others behind them in their memory.
type handed struct {
	set  []api.Attr
	p, q []api.Change
}

func hand(set []api.Attr, p, q []api.Change) handed {
	return handed{slices.Clone(set), slices.Clone(p), slices.Clone(q)}
}

func (h handed) first(n int) handed {
	return handed{h.set[:min(n, len(h.set))], h.p[:min(n, len(h.p))], h.q[:min(n, len(h.q))]}
}

func (h handed) writeOver() {
	scrawlSet(h.set)
	scrawlPatch(h.p)
	scrawlPatch(h.q)
}

func scrawlSet(set []api.Attr) {
	set = set[:cap(set)]
	for i := range set {
		set[i] = api.Attr{Key: 500 + i, Value: value.Int(77)}
	}
}

func scrawlPatch(p []api.Change) {
	p = p[:cap(p)]
	for i := range p {
		p[i] = api.Change{Key: 500 + i, Gone: i%2 == 0, Value: value.Int(77)}
	}
}

func checkHanded(t *testing.T, what string, h, want handed) {
	t.Helper()
	checkSet(t, what, h.set, want.set)
	checkPatch(t, what, h.p, want.p)
	checkPatch(t, what, h.q, want.q)
}

// someHanded have rows that share no key, some, and all; ones that are Gone, and not; and ones that do not rise.
func someHanded() []handed {
	var l []handed
	for i, gone := range goneWhere() {
		other := goneWhere()[(i+2)%5]
		l = append(l,
			hand(setOf(good(), i), patchOf(good(), i+1, gone), patchOf(good(), i+2, other)),
			hand(setOf(good(), i), numbered(2, 2, 12, gone), patchOf(good(), i, other)),
			hand(asSet(numbered(1, 2, 9, goneWhere()[0])), numbered(2, 2, 9, gone), numbered(3, 2, 9, other)),
			hand(asSet(numbered(-5, 1, 70, goneWhere()[0])), numbered(-3, 1, 70, gone), numbered(100, 1, 70, other)),
			hand(asSet(numbered(100, 1, 9, goneWhere()[0])), numbered(-30, 1, 20, gone), numbered(0, 1, 9, other)))
	}
	falling := numbered(1, 2, 9, goneWhere()[2])
	slices.Reverse(falling)
	return append(l, hand(asSet(falling), falling, numbered(1, 2, 9, goneWhere()[3])), hand(nil, nil, nil))
}

// TestHandedInIsNotWrittenTo asks of the lists, and of what stands behind them in their memory.
func TestHandedInIsNotWrittenTo(t *testing.T) {
	s := made(t, good())
	for _, want := range someHanded() {
		for n := range 72 {
			h := hand(want.set, want.p, want.q)
			f := h.first(n)
			all(s, f.set, f.p, f.q)
			checkHanded(t, "what was handed in, behind the calls", h, want)
		}
	}
}

// TestHandedInMayBeWrittenOver writes over the lists behind the call: what was answered stays.
func TestHandedInMayBeWrittenOver(t *testing.T) {
	s := made(t, good())
	for _, one := range someHanded() {
		for n := range 72 {
			keep := one.first(n)
			wantSets, wantPatches := all(s, keep.set, keep.p, keep.q)
			h := hand(one.set, one.p, one.q)
			f := h.first(n)
			sets, patches := all(s, f.set, f.p, f.q)
			h.writeOver()
			for i := range sets {
				checkSet(t, "what was answered, behind writing over what was handed in", sets[i], wantSets[i])
			}
			for i := range patches {
				checkPatch(t, "what was answered, behind writing over what was handed in", patches[i], wantPatches[i])
			}
		}
	}
}

// TestAnswersMayBeWrittenOver writes over each answer, and behind it: what was handed in stays, and what else was answered, and is answered then.
func TestAnswersMayBeWrittenOver(t *testing.T) {
	s := made(t, good())
	for _, want := range someHanded() {
		for n := range 72 {
			h := hand(want.set, want.p, want.q)
			f := h.first(n)
			others, otherPatches := all(s, f.set, f.p, f.q)
			sets, patches := all(s, f.set, f.p, f.q)
			for _, l := range sets {
				scrawlSet(l)
			}
			for _, l := range patches {
				scrawlPatch(l)
			}
			checkHanded(t, "what was handed in, behind writing over what was answered", h, want)
			later, laterPatches := all(s, f.set, f.p, f.q)
			for i := range others {
				checkSet(t, "what else was answered, behind writing over what was answered", others[i], later[i])
			}
			for i := range otherPatches {
				checkPatch(t, "what else was answered, behind writing over what was answered", otherPatches[i], laterPatches[i])
			}
		}
	}
}

// TestCopyGoesItsOwnWay writes over each change of a patch, and of its copy, and puts more behind both.
func TestCopyGoesItsOwnWay(t *testing.T) {
	for n := range 65 {
		want := patchOf(full(), 0, goneWhere()[2])
		room := slices.Clone(want)
		p := room[:n]
		for i := range p {
			c := Copy(p)
			c[i] = api.Change{Key: 77, Value: value.Int(77)}
			checkPatch(t, "the patch, behind writing over its copy", p, want[:n])
			d := Copy(p)
			p[i] = api.Change{Key: 78, Gone: true}
			checkPatch(t, "the copy, behind writing over the patch", d, want[:n])
			p[i] = want[i]
		}
		_ = append(Copy(p), api.Change{Key: 79})
		checkPatch(t, "the patch's memory, behind putting more behind its copy", room, want)
	}
}

// TestSchemaStays: asking of patches changes no schema, and asking again tells the same.
func TestSchemaStays(t *testing.T) {
	s := made(t, good())
	for _, gone := range goneWhere() {
		p := patchOf(good(), 0, gone)
		for range 3 {
			checkMay(t, s, p, api.OK)
			checkMay(t, s, with(p, api.Change{Key: 2, Gone: true}), api.ErrKey)
			checkMay(t, s, with(p, api.Change{Key: 2}), api.ErrMalformed)
			checkPart(t, s, good(), p)
		}
	}
	if !slices.Equal(s.Keys(), good()) {
		t.Errorf("the schema's keys: %+v", s.Keys())
	}
}
