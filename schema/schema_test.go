package schema

import (
	"math"
	"slices"
	"strings"
	"testing"

	"rubric/api"
)

// The model: the chapter's words, said of lists that are gone over from end to end.

func fitsAlone(k api.Key) bool {
	id := 1 <= k.ID && k.ID <= 1000
	kind := k.Kind == 1 || k.Kind == 2 || k.Kind == 3 || k.Kind == 4
	group := k.Group == 0 || k.Block && 1 <= k.Group && k.Group <= 8
	before := !k.Before || !k.Block
	return id && kind && group && before
}

func fitTogether(keys []api.Key) bool {
	for i, k := range keys {
		if !fitsAlone(k) || slices.ContainsFunc(keys[:i], func(o api.Key) bool { return o.ID == k.ID }) {
			return false
		}
	}
	return len(keys) <= 64
}

func keyOf(keys []api.Key, id int) (api.Key, bool) {
	for _, k := range keys {
		if k.ID == id {
			return k, true
		}
	}
	return api.Key{}, false
}

// groupOf goes over the IDs, so that what it tells rises of itself.
func groupOf(keys []api.Key, id int) []int {
	k, ok := keyOf(keys, id)
	if !ok || k.Group == 0 {
		return nil
	}
	var ids []int
	for other := 1; other <= 1000; other++ {
		if o, ok := keyOf(keys, other); ok && other != id && o.Group == k.Group {
			ids = append(ids, other)
		}
	}
	return ids
}

func risingOf(keys []api.Key) []api.Key {
	var l []api.Key
	for id := 1; id <= 1000; id++ {
		if k, ok := keyOf(keys, id); ok {
			l = append(l, k)
		}
	}
	return l
}

// The rows of the tests.

// someIDs are all that may be, those beside them, and some that are one of those in fewer bits.
func someIDs() []int {
	l := []int{math.MinInt, math.MinInt + 1, -1 << 32, -1000, -3, -2, -1, 1 << 16, 1<<16 + 1, 1<<32 - 1, 1 << 32, 1<<32 + 1, math.MaxInt - 1, math.MaxInt}
	for id := 0; id <= 1100; id++ {
		l = append(l, id)
	}
	return l
}

// goodValues are, by their kinds, values that may be; badValues likewise values that may not.
func goodValues() map[uint8][]api.Value {
	return map[uint8][]api.Value{
		1: {{Kind: 1}, {Kind: 1, N: 1}},
		2: {{Kind: 2}, {Kind: 2, N: 1}, {Kind: 2, N: 2}, {Kind: 2, N: math.MinInt64}, {Kind: 2, N: math.MaxInt64}},
		3: {{Kind: 3}, {Kind: 3, F: 1 << 63}, {Kind: 3, F: math.Float64bits(1.5)}, {Kind: 3, F: api.NaN}},
		4: {{Kind: 4}, {Kind: 4, S: "a"}, {Kind: 4, S: strings.Repeat("\u00e4", 32)}},
	}
}

func badValues() map[uint8][]api.Value {
	return map[uint8][]api.Value{
		0:   {{}, {N: 1}, {F: 1}, {S: "a"}},
		1:   {{Kind: 1, N: 2}, {Kind: 1, N: -1}, {Kind: 1, F: 1}, {Kind: 1, S: "a"}},
		2:   {{Kind: 2, F: 1}, {Kind: 2, N: 3, S: "a"}},
		3:   {{Kind: 3, F: api.NaN + 1}, {Kind: 3, F: api.NaN | 1<<63}, {Kind: 3, N: 1}, {Kind: 3, S: "a"}},
		4:   {{Kind: 4, S: "\xff"}, {Kind: 4, S: strings.Repeat("a", 65)}, {Kind: 4, N: 1}, {Kind: 4, F: 1}},
		5:   {{Kind: 5}, {Kind: 5, N: 1}, {Kind: 5, S: "a"}},
		255: {{Kind: 255}, {Kind: 255, F: 1}},
	}
}

// good are keys of each kind and with each flag, those of some groups one, two, and three.
func good() []api.Key {
	return []api.Key{
		{ID: 14, Block: true, Kind: 2, Group: 8},
		{ID: 1, Kind: 1, After: true},
		{ID: 12, Block: true, Kind: 4, After: true, Group: 1},
		{ID: 1000, Block: true, Kind: 2, Group: 1},
		{ID: 4, Kind: 4, Before: true},
		{ID: 999, Kind: 3, After: true, Before: true},
		{ID: 13, Block: true, Kind: 1, Group: 8},
		{ID: 11, Block: true, Kind: 3, Group: 1},
		{ID: 15, Block: true, Kind: 2},
		{ID: 5, Kind: 2},
		{ID: 16, Block: true, Kind: 1, After: true},
		{ID: 2, Block: true, Kind: 4, Group: 5},
	}
}

// row is n keys, at most 1000, of all kinds, groups and flags, by no order of their IDs.
func row(n int) []api.Key {
	var l []api.Key
	for i := range n {
		k := api.Key{ID: (i*379+613)%1000 + 1, Kind: uint8(i%4 + 1), After: i%3 == 0, Block: i%5 > 1}
		k.Before = !k.Block && i%2 == 0
		if k.Block {
			k.Group = i % 9
		}
		l = append(l, k)
	}
	return l
}

// bad are keys none of which may be.
func bad() []api.Key {
	var l []api.Key
	for _, id := range someIDs() {
		if id < 1 || id > 1000 {
			l = append(l, api.Key{ID: id, Kind: 1}, api.Key{ID: id, Block: true, Kind: 2, Group: 1})
		}
	}
	for kind := range 256 {
		if kind == 0 || kind > 4 {
			l = append(l, api.Key{ID: 7, Kind: uint8(kind)}, api.Key{ID: 7, Kind: uint8(kind), Block: true, Group: 8})
		}
	}
	for _, group := range []int{math.MinInt, -1 << 32, -8, -2, -1, 9, 10, 64, 256, 257, 1 << 32, 1<<32 + 1, math.MaxInt} {
		l = append(l, api.Key{ID: 7, Kind: 1, Group: group}, api.Key{ID: 7, Kind: 1, Block: true, Group: group})
	}
	for group := 1; group <= 8; group++ {
		l = append(l, api.Key{ID: 7, Kind: 1, Group: group}, api.Key{ID: 7, Kind: 1, After: true, Before: true, Group: group})
	}
	for group := 0; group <= 8; group++ {
		l = append(l, api.Key{ID: 7, Kind: 1, Block: true, Before: true, Group: group}, api.Key{ID: 7, Kind: 1, Block: true, After: true, Before: true, Group: group})
	}
	return l
}

// edges are keys with all that the chapter names of each field, all of them together.
func edges() []api.Key {
	var l []api.Key
	flags := []bool{false, true}
	for _, id := range []int{math.MinInt, -1000, -1, 0, 1, 500, 1000, 1001, 1<<32 + 1, math.MaxInt} {
		for _, kind := range []uint8{0, 1, 2, 3, 4, 5, 128, 255} {
			for _, group := range []int{math.MinInt, -1, 0, 1, 4, 8, 9, 1<<32 + 1, math.MaxInt} {
				for i := range 8 {
					l = append(l, api.Key{ID: id, Kind: kind, Group: group, Block: flags[i&1], After: flags[i>>1&1], Before: flags[i>>2]})
				}
			}
		}
	}
	return l
}

// Checks.

func made(t *testing.T, keys []api.Key) *Schema {
	t.Helper()
	s, e := New(keys)
	if e != api.OK || s == nil {
		t.Fatalf("New of %+v: %v, %d; want a schema, OK", keys, s, e)
	}
	return s
}

func refuse(t *testing.T, keys []api.Key) {
	t.Helper()
	if s, e := New(keys); e != api.ErrMalformed || s != nil {
		t.Errorf("New of %+v: %v, %d; want none, ErrMalformed", keys, s, e)
	}
}

// checkKeys holds Len, Keys and Find against what the schema's keys are.
func checkKeys(t *testing.T, s *Schema, keys []api.Key) {
	t.Helper()
	if s.Len() != len(keys) {
		t.Errorf("Len of %d keys: %d", len(keys), s.Len())
	}
	if l := s.Keys(); !slices.Equal(l, risingOf(keys)) {
		t.Errorf("Keys: %+v; want %+v", l, risingOf(keys))
	}
	for _, id := range someIDs() {
		k, ok := s.Find(id)
		if want, there := keyOf(keys, id); k != want || ok != there {
			t.Errorf("Find of %d: %+v, %v; want %+v, %v", id, k, ok, want, there)
		}
	}
}

func checkGroups(t *testing.T, s *Schema, keys []api.Key) {
	t.Helper()
	for _, id := range someIDs() {
		if l := s.Group(id); !slices.Equal(l, groupOf(keys, id)) {
			t.Errorf("Group of %d: %v; want %v", id, l, groupOf(keys, id))
		}
	}
}

func checkFits(t *testing.T, s *Schema, keys []api.Key) {
	t.Helper()
	for _, id := range someIDs() {
		key, there := keyOf(keys, id)
		for kind, l := range goodValues() {
			for _, v := range l {
				if s.Fits(id, v) != (there && key.Kind == kind) {
					t.Errorf("Fits of %d (key %+v) and %+v: %v", id, key, v, s.Fits(id, v))
				}
			}
		}
		for _, l := range badValues() {
			for _, v := range l {
				if s.Fits(id, v) {
					t.Errorf("Fits of %d (key %+v) and %+v, that may not be", id, key, v)
				}
			}
		}
	}
}

func check(t *testing.T, s *Schema, keys []api.Key) {
	t.Helper()
	checkKeys(t, s, keys)
	checkGroups(t, s, keys)
	checkFits(t, s, keys)
}

func TestExamples(t *testing.T) {
	refuse(t, []api.Key{{ID: 3, Kind: 1}, {ID: 3, Kind: 1}})
	refuse(t, []api.Key{{ID: 3, Kind: 1, Group: 1}})
	s := made(t, []api.Key{{ID: 9, Block: true, Kind: 1, Group: 1}, {ID: 5, Block: true, Kind: 1, Group: 1}, {ID: 7, Block: true, Kind: 1, Group: 1}})
	if l := s.Group(7); !slices.Equal(l, []int{5, 9}) {
		t.Errorf("Group of 7: %v; want 5, 9", l)
	}
}

// The rows that the tests hold the package against are held against the chapter's words themselves.
func TestRowsOfTheTests(t *testing.T) {
	for n := range 65 {
		if l := row(n); !fitTogether(l) || len(l) != n {
			t.Errorf("the row of %d keys should fit", n)
		}
	}
	if !fitTogether(good()) || fitTogether(row(65)) {
		t.Error("the good keys should fit, and 65 should not")
	}
	for _, k := range bad() {
		if fitsAlone(k) {
			t.Errorf("%+v should not fit", k)
		}
	}
	for _, k := range row(1000) {
		if !fitsAlone(k) {
			t.Errorf("%+v should fit", k)
		}
	}
}

// P4.1

func TestNoKeys(t *testing.T) {
	check(t, made(t, nil), nil)
	check(t, made(t, []api.Key{}), nil)
	check(t, made(t, good()[:0]), nil)
}

// TestKeysByTheirNumber asks of each number of keys up to 64, whatever they are, whether they are told.
func TestKeysByTheirNumber(t *testing.T) {
	for n := range 65 {
		checkKeys(t, made(t, row(n)), row(n))
		checkGroups(t, made(t, row(n)), row(n))
	}
	check(t, made(t, row(64)), row(64))
	check(t, made(t, good()), good())
}

func TestTooManyKeys(t *testing.T) {
	for _, n := range []int{65, 66, 127, 128, 129, 256, 320, 1000} {
		refuse(t, row(n))
	}
	refuse(t, make([]api.Key, 65))
	refuse(t, make([]api.Key, 1<<16))
	refuse(t, slices.Repeat(row(64), 2))
	refuse(t, slices.Repeat([]api.Key{{ID: 3, Kind: 1}}, 1<<16))
	refuse(t, append(row(64), row(1)...))
	refuse(t, append(row(64), api.Key{}))
}

// TestEachKeyAlone holds New against the chapter's words at all fields together.
func TestEachKeyAlone(t *testing.T) {
	for _, k := range edges() {
		s, e := New([]api.Key{k})
		switch {
		case !fitsAlone(k) && (e != api.ErrMalformed || s != nil):
			t.Errorf("New of %+v: %v, %d; want none, ErrMalformed", k, s, e)
		case fitsAlone(k) && (e != api.OK || s.Len() != 1 || !slices.Equal(s.Keys(), []api.Key{k})):
			t.Errorf("New of %+v: %+v, %d; want a schema of it, OK", k, s.Keys(), e)
		}
	}
}

func TestIDs(t *testing.T) {
	for _, id := range someIDs() {
		for _, k := range []api.Key{{ID: id, Kind: 1, Before: true}, {ID: id, Kind: 2, Block: true, Group: 3}} {
			if fitsAlone(k) {
				checkKeys(t, made(t, []api.Key{k}), []api.Key{k})
			} else {
				refuse(t, []api.Key{k})
			}
		}
	}
}

// TestMalformedBesideGoodOnes lays each key that may not be ahead of, between, and behind good ones.
func TestMalformedBesideGoodOnes(t *testing.T) {
	for _, k := range bad() {
		refuse(t, []api.Key{k})
		for _, at := range []int{0, 1, 6, 11, 12} {
			refuse(t, slices.Insert(good(), at, k))
		}
		refuse(t, append(row(63), k))
	}
}

// TestOneIDTwice lays a key with each one's ID, alike and not, at each place beside it.
func TestOneIDTwice(t *testing.T) {
	for _, k := range good() {
		for at := range len(good()) + 1 {
			refuse(t, slices.Insert(good(), at, k))
			refuse(t, slices.Insert(good(), at, api.Key{ID: k.ID, Kind: 5 - k.Kind}))
			refuse(t, slices.Insert(good(), at, api.Key{ID: k.ID, Kind: 1, Block: true, Group: 4}))
		}
	}
	full := row(64)
	for i := range full {
		for j := range full {
			if l := row(64); i != j {
				l[j].ID = l[i].ID
				refuse(t, l)
			}
		}
	}
}

// TestKeysInWhateverOrder asks that what is told hangs on no order in which the keys are handed in, and on no order of the asking.
func TestKeysInWhateverOrder(t *testing.T) {
	for _, keys := range [][]api.Key{good(), row(64), row(17)} {
		want := risingOf(keys)
		for turn := range len(keys) {
			turned := slices.Concat(keys[turn:], keys[:turn])
			checkKeys(t, made(t, turned), want)
			checkGroups(t, made(t, turned), want)
			slices.Reverse(turned)
			checkKeys(t, made(t, turned), want)
			checkGroups(t, made(t, turned), want)
		}
		check(t, made(t, want), want)
	}
	s := made(t, row(64))
	for range 200 {
		if l := s.Keys(); !slices.Equal(l, risingOf(row(64))) {
			t.Fatalf("Keys, asked again: %+v", l)
		}
	}
}

func TestSchemasGoTheirOwnWays(t *testing.T) {
	a, b := made(t, good()), made(t, row(20))
	refuse(t, append(good(), api.Key{ID: 0, Kind: 1}))
	check(t, a, good())
	check(t, b, row(20))
}

// P4.2

// TestFitsOfEachKind asks of inline and block keys of each kind, in groups and not.
func TestFitsOfEachKind(t *testing.T) {
	for kind := uint8(1); kind <= 4; kind++ {
		keys := []api.Key{{ID: 1, Kind: kind}, {ID: 2, Kind: 5 - kind}, {ID: 999, Kind: kind%4 + 1, Block: true}, {ID: 1000, Kind: kind, Block: true, Group: 1}}
		checkFits(t, made(t, keys), keys)
	}
}

func TestFitsInWords(t *testing.T) {
	s := made(t, []api.Key{{ID: 1, Kind: api.ValFlag}, {ID: 5, Kind: api.ValInt}})
	cases := []struct {
		id   int
		v    api.Value
		want bool
	}{
		{1, api.Value{Kind: api.ValFlag, N: 1}, true},
		{5, api.Value{Kind: api.ValInt, N: 2}, true},
		{1, api.Value{Kind: api.ValFlag, N: 2}, false},           // the value may not be
		{5, api.Value{Kind: api.ValInt, N: 2, S: "a"}, false},    // likewise
		{1, api.Value{Kind: api.ValInt, N: 1}, false},            // of another kind
		{5, api.Value{Kind: api.ValFlag, N: 1}, false},           // likewise
		{2, api.Value{Kind: api.ValFlag, N: 1}, false},           // no such key
		{0, api.Value{}, false},                                  // neither a key nor a value
		{2, api.Value{}, false},                                  // likewise
		{1, api.Value{}, false},                                  // no value
		{1<<32 + 1, api.Value{Kind: api.ValFlag, N: 1}, false},   // no such key
		{-1, api.Value{Kind: api.ValFlag, N: 1}, false},          // likewise
		{1001, api.Value{Kind: api.ValInt, N: 1 << 40}, false},   // likewise
		{5, api.Value{Kind: api.ValInt, N: math.MinInt64}, true}, // any N
	}
	for _, c := range cases {
		if s.Fits(c.id, c.v) != c.want {
			t.Errorf("Fits of %d and %+v: %v", c.id, c.v, s.Fits(c.id, c.v))
		}
	}
}

// TestEachGroup asks of all groups at once, of which one has so many keys as another has not.
func TestEachGroup(t *testing.T) {
	var keys []api.Key
	for group := 0; group <= 8; group++ {
		for i := range group {
			keys = append(keys, api.Key{ID: 1000 - 9*i - group, Block: true, Kind: 1, Group: group})
		}
		keys = append(keys, api.Key{ID: 10 + group, Kind: 2}, api.Key{ID: 20 + group, Block: true, Kind: 3})
	}
	s := made(t, keys)
	checkGroups(t, s, keys)
	for group := 1; group <= 8; group++ {
		if l := s.Group(1000 - group); len(l) != group-1 {
			t.Errorf("Group of the key %d: %v; want %d others", 1000-group, l, group-1)
		}
	}
}

func TestGroupOfAllKeys(t *testing.T) {
	var keys []api.Key
	for i := range 64 {
		keys = append(keys, api.Key{ID: 1000 - 15*i, Block: true, Kind: 1, Group: 8})
	}
	checkGroups(t, made(t, keys), keys)
	if l := made(t, keys).Group(1000); len(l) != 63 || l[0] != 55 || l[62] != 985 {
		t.Errorf("Group of 1000: %v; want 55 to 985", l)
	}
}

// TestNoGroup: keys without a group, though they have the same number, are in none together; what is no key has none.
func TestNoGroup(t *testing.T) {
	s := made(t, []api.Key{{ID: 1, Kind: 1}, {ID: 2, Kind: 1}, {ID: 3, Kind: 1, Block: true}, {ID: 4, Kind: 1, Block: true}, {ID: 5, Kind: 1, Block: true, Group: 1}})
	for _, id := range someIDs() {
		if l := s.Group(id); len(l) != 0 {
			t.Errorf("Group of %d: %v; want none", id, l)
		}
	}
}

// TestGroupsBothWays: a key is in the group of another one just if that one is in its, and never in its own.
func TestGroupsBothWays(t *testing.T) {
	for _, keys := range [][]api.Key{good(), row(64)} {
		s := made(t, keys)
		for _, k := range keys {
			for _, o := range keys {
				there, back := slices.Contains(s.Group(k.ID), o.ID), slices.Contains(s.Group(o.ID), k.ID)
				if together := k.ID != o.ID && k.Group != 0 && k.Group == o.Group; there != together || back != together {
					t.Errorf("%+v and %+v: %v, %v; want %v", k, o, there, back, together)
				}
			}
		}
	}
}

// What holds of both.

func TestNoSchema(t *testing.T) {
	check(t, nil, nil)
	check(t, &Schema{}, nil)
	var none *Schema
	if k, ok := none.Find(1); ok || k != (api.Key{}) {
		t.Errorf("Find: %+v, %v", k, ok)
	}
	if none.Fits(0, api.Value{}) || none.Len() != 0 || len(none.Keys()) != 0 || len(none.Group(0)) != 0 {
		t.Error("a schema that is not there should have nothing")
	}
}

// TestKeysHandedInAreNotKept writes over them, and over what stands behind them in their memory.
func TestKeysHandedInAreNotKept(t *testing.T) {
	handed := append(good(), row(5)...)[:len(good())]
	s := made(t, handed)
	if !slices.Equal(handed, good()) || !slices.Equal(handed[:len(good())+5][len(good()):], row(5)) {
		t.Errorf("New wrote to what was handed in: %+v", handed)
	}
	for i := range handed {
		handed[i] = api.Key{ID: 500 + i, Block: true, Kind: 3, Group: 1}
	}
	check(t, s, good())
	clear(handed[:cap(handed)])
	check(t, s, good())
}

// TestAnswersMayBeWrittenOver writes over them, and behind them.
func TestAnswersMayBeWrittenOver(t *testing.T) {
	s := made(t, good())
	first, second := s.Keys(), s.Keys()
	for i := range first {
		first[i] = api.Key{ID: 500 + i, Block: true, Kind: 3, Group: 1}
	}
	_ = append(first, api.Key{ID: 7, Kind: 1})
	if !slices.Equal(second, risingOf(good())) {
		t.Errorf("two answers of Keys share memory: %+v", second)
	}
	for _, k := range good() {
		one, other := s.Group(k.ID), s.Group(k.ID)
		for i := range one {
			one[i] = -1
		}
		_ = append(one, 7)
		if !slices.Equal(other, groupOf(good(), k.ID)) {
			t.Errorf("two answers of Group of %d share memory: %v", k.ID, other)
		}
	}
	check(t, s, good())
}
