package rules

import (
	"cmp"
	"math"
	"slices"
	"strings"
	"testing"

	"rubric/api"
	"rubric/attrs"
	"rubric/patch"
	"rubric/schema"
	"rubric/value"
)

var (
	_ func(*schema.Schema, []api.Change) ([]api.Change, api.Errno)         = Complete
	_ func(*schema.Schema, []api.Attr) []api.Attr                          = Split
	_ func(*schema.Schema, []api.Attr, []api.Attr) []api.Attr              = Typed
	_ func(*schema.Schema, []api.Attr, int, int) ([]api.Change, api.Errno) = Step
)

// The model: the chapter's words, said of a schema's keys as a plain list, and of lists that are gone over from end to end.

func keyOf(keys []api.Key, id int) (api.Key, bool) {
	for _, k := range keys {
		if k.ID == id {
			return k, true
		}
	}
	return api.Key{}, false
}

// othersOf are the other keys of a key's group.
func othersOf(keys []api.Key, id int) []int {
	var l []int
	of, there := keyOf(keys, id)
	for _, k := range keys {
		if there && of.Group != 0 && k.Group == of.Group && k.ID != id {
			l = append(l, k.ID)
		}
	}
	return l
}

func hasChange(p []api.Change, key int) bool {
	return slices.ContainsFunc(p, func(c api.Change) bool { return c.Key == key })
}

func hasAttr(set []api.Attr, key int) bool {
	return slices.ContainsFunc(set, func(a api.Attr) bool { return a.Key == key })
}

func changesByKeys(a, b api.Change) int { return cmp.Compare(a.Key, b.Key) }

func attrsByKeys(a, b api.Attr) int { return cmp.Compare(a.Key, b.Key) }

func atOdds(keys []api.Key, p []api.Change) bool {
	for _, c := range p {
		if c.Gone {
			continue
		}
		others := othersOf(keys, c.Key)
		for _, d := range p {
			if !d.Gone && slices.Contains(others, d.Key) {
				return true
			}
		}
	}
	return false
}

func completeOf(keys []api.Key, p []api.Change) ([]api.Change, api.Errno) {
	if atOdds(keys, p) {
		return nil, api.ErrMalformed
	}
	l := slices.Clone(p)
	for _, c := range p {
		if c.Gone {
			continue
		}
		for _, key := range othersOf(keys, c.Key) {
			if !hasChange(l, key) {
				l = append(l, api.Change{Key: key, Gone: true})
			}
		}
	}
	slices.SortFunc(l, changesByKeys)
	return l, api.OK
}

func splitOf(keys []api.Key, set []api.Attr) []api.Attr {
	var l []api.Attr
	for _, a := range set {
		if k, there := keyOf(keys, a.Key); there && k.Block && k.After {
			l = append(l, a)
		}
	}
	return l
}

func typedOf(keys []api.Key, left, right []api.Attr) []api.Attr {
	var l []api.Attr
	for _, a := range left {
		if k, there := keyOf(keys, a.Key); there && !k.Block && k.After {
			l = append(l, a)
		}
	}
	these := slices.Clone(l)
	for _, a := range right {
		if k, there := keyOf(keys, a.Key); there && !k.Block && k.Before && !hasAttr(these, a.Key) {
			l = append(l, a)
		}
	}
	slices.SortFunc(l, attrsByKeys)
	return l
}

// steppedOf goes one by one, up to eight times, and never over an end.
func steppedOf(n int64, by int) int64 {
	n = max(n, 0)
	n = min(n, 8)
	for i := 0; i < 8 && i < by; i++ {
		n = min(n+1, 8)
	}
	for i := 0; i > -8 && i > by; i-- {
		n = max(n-1, 0)
	}
	return n
}

func stepOf(keys []api.Key, set []api.Attr, key, by int) ([]api.Change, api.Errno) {
	k, there := keyOf(keys, key)
	if !there || k.Kind != 2 {
		return nil, api.ErrKey
	}
	if !k.Block {
		return nil, api.ErrScope
	}
	var has api.Value
	for _, a := range set {
		if a.Key == key {
			has = a.Value
		}
	}
	n := int64(0)
	if has.Kind == 2 {
		n = has.N
	}
	n = steppedOf(n, by)
	switch others := othersOf(keys, key); {
	case n == 0 && hasAttr(set, key):
		return []api.Change{{Key: key, Gone: true}}, api.OK
	case n == 0:
		return nil, api.OK
	case hasAttr(set, key) && has == (api.Value{Kind: 2, N: n}) && !slices.ContainsFunc(others, func(o int) bool { return hasAttr(set, o) }):
		return nil, api.OK
	}
	return completeOf(keys, []api.Change{{Key: key, Value: api.Value{Kind: 2, N: n}}})
}

// The rows of the tests.

func flag(b bool) api.Value { return value.Flag(b) }

func num(n int64) api.Value { return value.Int(n) }

func text(s string) api.Value { return api.Value{Kind: api.ValText, S: s} }

func set(key int, v api.Value) api.Change { return api.Change{Key: key, Value: v} }

func gone(key int) api.Change { return api.Change{Key: key, Gone: true} }

func attr(key int, v api.Value) api.Attr { return api.Attr{Key: key, Value: v} }

// example are the chapter's keys.
func example() []api.Key {
	return []api.Key{
		{ID: 1, Kind: api.ValFlag, After: true},
		{ID: 4, Kind: api.ValFlag, Before: true},
		{ID: 11, Block: true, Kind: api.ValInt, Group: 1},
		{ID: 12, Block: true, Kind: api.ValText, Group: 1},
		{ID: 13, Block: true, Kind: api.ValFlag, Group: 1},
	}
}

// good are inline keys of each sort, block keys with and without After, and groups of one key, of two, of four, and none; two groups stand among each other.
func good() []api.Key {
	return []api.Key{
		{ID: 1, Kind: 1, After: true},
		{ID: 2, Kind: 2, After: true, Before: true},
		{ID: 4, Kind: 4, Before: true},
		{ID: 5, Kind: 2},
		{ID: 6, Kind: 4, After: true, Before: true},
		{ID: 10, Block: true, Kind: 2, Group: 2, After: true},
		{ID: 11, Block: true, Kind: 2, Group: 1},
		{ID: 12, Block: true, Kind: 4, Group: 1, After: true},
		{ID: 13, Block: true, Kind: 1, Group: 1},
		{ID: 14, Block: true, Kind: 2, After: true},
		{ID: 15, Block: true, Kind: 3},
		{ID: 16, Block: true, Kind: 3, Group: 2},
		{ID: 17, Block: true, Kind: 2, Group: 1, After: true},
		{ID: 1000, Block: true, Kind: 2, Group: 8, After: true},
	}
}

// full are as many keys as may be, from 1 to 1000, inline ones and block ones of each kind, of all groups and of none, among one another.
func full() []api.Key {
	var l []api.Key
	for i := range 64 {
		k := api.Key{ID: 1 + i*15 + i*6/7, Kind: uint8(i%4 + 1), Block: i%5 != 1, After: i%2 == 0 || i%7 == 0}
		if k.Block {
			k.Group = i / 2 % 9
		} else {
			k.Before = i%3 == 0
		}
		l = append(l, k)
	}
	return l
}

// together are as many keys as may be of one group.
func together(group int) []api.Key {
	var l []api.Key
	for i := range 64 {
		l = append(l, api.Key{ID: 3 + 2*i, Block: true, Kind: 2, Group: group, After: i%3 == 0})
	}
	return l
}

func rowsOfKeys() [][]api.Key {
	return [][]api.Key{nil, example(), good(), full(), together(1), together(8)}
}

// someKeys are all that the chapter names, those beside them, and some that are one of those in fewer bits.
func someKeys() []int {
	l := []int{math.MinInt, math.MinInt + 1, -1 << 32, -1<<32 + 11, -1000, -11, 998, 999, 1000, 1001, 1 << 16, 1<<16 + 11, 1 << 32, 1<<32 + 11, 1<<32 + 1000, math.MaxInt - 1, math.MaxInt}
	for key := -1; key <= 20; key++ {
		l = append(l, key)
	}
	slices.Sort(l)
	return l
}

func valuesOf(kind uint8) []api.Value {
	switch kind {
	case 1:
		return []api.Value{flag(false), flag(true)}
	case 2:
		return []api.Value{num(3), num(0), num(-1), num(8), num(9), num(math.MinInt64), num(math.MaxInt64)}
	case 3:
		return []api.Value{{Kind: 3}, {Kind: 3, F: 1 << 63}, {Kind: 3, F: math.Float64bits(4)}, {Kind: 3, F: api.NaN}}
	}
	return []api.Value{text(""), text("a"), text("3"), text(strings.Repeat("\u00e4", 32))}
}

// noInts are of each other kind, of none, and of what is no kind, many of them with a number where an integer has its own.
func noInts() []api.Value {
	l := slices.Concat(valuesOf(1), valuesOf(3), valuesOf(4))
	for _, kind := range []uint8{0, 1, 3, 4, 5, 2 + 16, 128 + 2, 255} {
		for _, n := range []int64{0, 1, 3, 8, -1, math.MaxInt64} {
			l = append(l, api.Value{Kind: kind, N: n}, api.Value{Kind: kind, N: n, F: 3, S: "a"})
		}
	}
	return l
}

// numbers are those that the chapter names, those beside them, and some that are one of those in fewer bits.
func numbers() []int64 {
	l := []int64{math.MinInt64, math.MinInt64 + 1, math.MinInt64 + 8, -1 << 32, -1<<32 + 1, -256, -16, 16, 256, 257, 1 << 16, 1 << 31, 1<<31 - 1, 1 << 32, 1<<32 + 1, 1<<32 + 8, math.MaxInt64 - 8, math.MaxInt64 - 1, math.MaxInt64}
	for n := int64(-10); n <= 10; n++ {
		l = append(l, n)
	}
	return l
}

func bys() []int {
	var l []int
	for _, n := range numbers() {
		l = append(l, int(n))
	}
	return l
}

// patchesOf are all patches of some of the keys, each of which is Gone, or has a value.
func patchesOf(keys []int) [][]api.Change {
	l := [][]api.Change{nil}
	for i, key := range keys {
		for _, p := range l {
			l = append(l, append(slices.Clone(p), gone(key)), append(slices.Clone(p), set(key, num(int64(i)))))
		}
	}
	return l
}

// setsOf are all sets of some of the keys, with values that tell by what is added to them which set they are of.
func setsOf(keys []int, add int64) [][]api.Attr {
	l := [][]api.Attr{nil}
	for i, key := range keys {
		for _, s := range l {
			l = append(l, append(slices.Clone(s), attr(key, num(int64(i)+add))))
		}
	}
	return l
}

func idsOf(keys []api.Key) []int {
	var l []int
	for _, k := range keys {
		l = append(l, k.ID)
	}
	return l
}

func keysOf(set []api.Attr) []int {
	var l []int
	for _, a := range set {
		l = append(l, a.Key)
	}
	return l
}

// wholeSet has each of the keys, and those beside them.
func wholeSet(keys []api.Key, add int64) []api.Attr {
	var ids []int
	for _, k := range keys {
		ids = append(ids, k.ID-1, k.ID, k.ID+1)
	}
	slices.Sort(ids)
	var l []api.Attr
	for i, id := range slices.Compact(ids) {
		l = append(l, attr(id, num(int64(i)+add)))
	}
	return l
}

// rule makes rows that are long and alike each time.
type rule uint64

func (r *rule) upTo(n int) int {
	*r = *r*6364136223846793005 + 1442695040888963407
	return int(uint64(*r) >> 33 % uint64(n))
}

func (r *rule) one(of []api.Value) api.Value {
	return of[r.upTo(len(of))]
}

func (r *rule) value() api.Value {
	if r.upTo(8) == 0 {
		return r.one(noInts())
	}
	return r.one(valuesOf(uint8(r.upTo(4) + 1)))
}

// keys are up to 64 that may be a schema's.
func (r *rule) keys() []api.Key {
	var l []api.Key
	id, apart := r.upTo(5), 1+r.upTo(12)
	for range r.upTo(65) {
		id += 1 + r.upTo(apart)
		k := api.Key{ID: id, Block: r.upTo(3) > 0, Kind: uint8(1 + r.upTo(4)), After: r.upTo(2) == 0}
		switch {
		case k.Block:
			k.Group = r.upTo(9)
		default:
			k.Before = r.upTo(2) == 0
		}
		if r.upTo(2) == 0 {
			k.Kind = api.ValInt
		}
		l = append(l, k)
	}
	return l
}

// set is some of the keys, with some beside them.
func (r *rule) set(keys []api.Key, often int) []api.Attr {
	var l []api.Attr
	for _, a := range wholeSet(keys, 0) {
		_, there := keyOf(keys, a.Key)
		if there && r.upTo(often) == 0 || !there && r.upTo(9) == 0 {
			l = append(l, attr(a.Key, r.value()))
		}
	}
	return l
}

func (r *rule) patch(keys []api.Key, often, goneOften int) []api.Change {
	var l []api.Change
	for _, a := range r.set(keys, often) {
		c := set(a.Key, a.Value)
		if r.upTo(goneOften) == 0 {
			c = gone(a.Key)
		}
		l = append(l, c)
	}
	return l
}

// Checks. Each test ends at its first fault: the rows are long, and what is wrong with one is wrong with many.

func made(t *testing.T, keys []api.Key) *schema.Schema {
	t.Helper()
	s, e := schema.New(keys)
	if e != api.OK {
		t.Fatalf("a schema of %+v: %d", keys, e)
	}
	return s
}

func alike(a, b api.Value) bool {
	return a.Kind == b.Kind && a.N == b.N && a.F == b.F && a.S == b.S
}

func samePatch(p, q []api.Change) bool {
	return slices.EqualFunc(p, q, func(c, d api.Change) bool {
		return c.Key == d.Key && c.Gone == d.Gone && alike(c.Value, d.Value)
	})
}

func sameSet(a, b []api.Attr) bool {
	return slices.EqualFunc(a, b, func(x, y api.Attr) bool { return x.Key == y.Key && alike(x.Value, y.Value) })
}

func checkPatch(t *testing.T, what string, p []api.Change, e api.Errno, want []api.Change, wantE api.Errno) {
	t.Helper()
	if e != wantE || !samePatch(p, want) {
		t.Fatalf("%s: %v, %d; want %v, %d", what, p, e, want, wantE)
	}
	if e != api.OK && p != nil && len(p) != 0 {
		t.Fatalf("%s: beside %d stands %v", what, e, p)
	}
}

func checkSet(t *testing.T, what string, set, want []api.Attr) {
	t.Helper()
	if !sameSet(set, want) {
		t.Fatalf("%s: %v; want %v", what, set, want)
	}
}

func checkComplete(t *testing.T, s *schema.Schema, keys []api.Key, p []api.Change) {
	t.Helper()
	got, e := Complete(s, p)
	want, wantE := completeOf(keys, p)
	if e != wantE || !samePatch(got, want) {
		t.Fatalf("Complete of %v: %v, %d; want %v, %d", p, got, e, want, wantE)
	}
	if e != api.OK {
		return
	}
	for i := range got {
		if i > 0 && got[i].Key <= got[i-1].Key {
			t.Fatalf("Complete of %v does not rise: %v", p, got)
		}
	}
	again, e := Complete(s, got)
	checkPatch(t, "Complete of what is completed", again, e, got, api.OK)
}

func checkSplit(t *testing.T, s *schema.Schema, keys []api.Key, set []api.Attr) {
	t.Helper()
	if got, want := Split(s, set), splitOf(keys, set); !sameSet(got, want) {
		t.Fatalf("Split of %v: %v; want %v", set, got, want)
	}
}

func checkTyped(t *testing.T, s *schema.Schema, keys []api.Key, left, right []api.Attr) {
	t.Helper()
	if got, want := Typed(s, left, right), typedOf(keys, left, right); !sameSet(got, want) {
		t.Fatalf("Typed of %v and %v: %v; want %v", left, right, got, want)
	}
}

// checkStep holds the call against the model, and what is answered against what follows of it.
func checkStep(t *testing.T, s *schema.Schema, keys []api.Key, set []api.Attr, key, by int) {
	t.Helper()
	got, e := Step(s, set, key, by)
	want, wantE := stepOf(keys, set, key, by)
	if e != wantE || !samePatch(got, want) {
		t.Fatalf("Step of %v, %d, %d: %v, %d; want %v, %d", set, key, by, got, e, want, wantE)
	}
	if after := patch.Apply(set, got); e == api.OK && len(got) == 0 != sameSet(after, set) {
		t.Fatalf("Step of %v, %d, %d: %v makes %v of it", set, key, by, got, after)
	}
}

// The chapter's examples, and the constants.

func TestExamples(t *testing.T) {
	s := made(t, example())
	p, e := Complete(s, []api.Change{set(12, text("a"))})
	checkPatch(t, "Complete of (12: a)", p, e, []api.Change{gone(11), set(12, text("a")), gone(13)}, api.OK)
	p, e = Complete(s, []api.Change{set(11, num(1)), set(12, text("a"))})
	checkPatch(t, "Complete of (11: 1, 12: a)", p, e, nil, api.ErrMalformed)
	p, e = Step(s, []api.Attr{attr(11, num(7))}, 11, 5)
	checkPatch(t, "Step of (11: 7), 11, 5", p, e, []api.Change{set(11, num(8)), gone(12), gone(13)}, api.OK)
}

func TestConstants(t *testing.T) {
	if api.MaxKeys != 64 || api.MaxKey != 1000 || api.MaxGroup != 8 || api.ValInt != 2 {
		t.Error("limits", api.MaxKeys, api.MaxKey, api.MaxGroup, api.ValInt)
	}
	if api.OK != 0 || api.ErrMalformed != 3 || api.ErrKey != 4 || api.ErrScope != 7 {
		t.Error("errors", api.OK, api.ErrMalformed, api.ErrKey, api.ErrScope)
	}
}

// TestRowsOfTheTests holds what the tests are made of against what they say of it.
func TestRowsOfTheTests(t *testing.T) {
	for _, keys := range rowsOfKeys() {
		if s := made(t, keys); !slices.Equal(s.Keys(), keys) {
			t.Errorf("%+v are no keys that rise", keys)
		}
	}
	if k := full(); len(k) != 64 || k[0].ID != 1 || k[63].ID != 1000 {
		t.Errorf("%+v should be 64 keys from 1 to 1000", k)
	}
	sizes := map[int]int{}
	for _, k := range good() {
		if k.Group != 0 {
			sizes[len(othersOf(good(), k.ID))]++
		}
	}
	if sizes[0] != 1 || sizes[1] != 2 || sizes[3] != 4 {
		t.Errorf("groups by how many others they have: %v", sizes)
	}
	for _, v := range noInts() {
		if v.Kind == api.ValInt {
			t.Errorf("%+v is of ValInt", v)
		}
	}
	if !slices.IsSorted(someKeys()) || len(patchesOf([]int{1, 2, 3})) != 27 || len(setsOf([]int{1, 2, 3}, 0)) != 8 {
		t.Error("keys, patches, sets")
	}
}

// P14.1

func TestCompleteOfNothing(t *testing.T) {
	longer := []api.Change{set(11, num(1))}
	for _, keys := range rowsOfKeys() {
		s := made(t, keys)
		for _, p := range [][]api.Change{nil, {}, make([]api.Change, 3)[:0], longer[:0]} {
			got, e := Complete(s, p)
			checkPatch(t, "Complete of nothing", got, e, nil, api.OK)
		}
	}
}

func TestCompleteInWords(t *testing.T) {
	s := made(t, good())
	a, b := text("a"), text("b")
	cases := []struct {
		what string
		p    []api.Change
		want []api.Change
		e    api.Errno
	}{
		{"one key of a group", []api.Change{set(12, a)}, []api.Change{gone(11), set(12, a), gone(13), gone(17)}, api.OK},
		{"the first of a group", []api.Change{set(11, num(3))}, []api.Change{set(11, num(3)), gone(12), gone(13), gone(17)}, api.OK},
		{"the last of a group", []api.Change{set(17, num(3))}, []api.Change{gone(11), gone(12), gone(13), set(17, num(3))}, api.OK},
		{"one of a group of two", []api.Change{set(10, num(3))}, []api.Change{set(10, num(3)), gone(16)}, api.OK},
		{"the one key of a group", []api.Change{set(1000, num(3))}, []api.Change{set(1000, num(3))}, api.OK},
		{"two of two groups", []api.Change{set(10, num(1)), set(12, a)}, []api.Change{set(10, num(1)), gone(11), set(12, a), gone(13), gone(16), gone(17)}, api.OK},
		{"three of three groups", []api.Change{set(13, flag(true)), set(16, value.Float(1)), set(1000, num(2))}, []api.Change{gone(10), gone(11), gone(12), set(13, flag(true)), set(16, value.Float(1)), gone(17), set(1000, num(2))}, api.OK},
		{"what only takes out", []api.Change{gone(11)}, []api.Change{gone(11)}, api.OK},
		{"what takes out all of a group", []api.Change{gone(11), gone(12), gone(13), gone(17)}, []api.Change{gone(11), gone(12), gone(13), gone(17)}, api.OK},
		{"what takes out of two groups", []api.Change{gone(10), gone(11)}, []api.Change{gone(10), gone(11)}, api.OK},
		{"a key that has no group", []api.Change{set(14, num(1))}, []api.Change{set(14, num(1))}, api.OK},
		{"two keys that have no group", []api.Change{set(14, num(1)), set(15, value.Float(2))}, []api.Change{set(14, num(1)), set(15, value.Float(2))}, api.OK},
		{"inline keys", []api.Change{set(1, flag(true)), set(2, num(1)), gone(4), set(5, num(2))}, []api.Change{set(1, flag(true)), set(2, num(1)), gone(4), set(5, num(2))}, api.OK},
		{"keys that the schema has not", []api.Change{set(-1, a), set(0, a), set(3, a), gone(18), set(1001, b)}, []api.Change{set(-1, a), set(0, a), set(3, a), gone(18), set(1001, b)}, api.OK},
		{"keys of all sorts", []api.Change{set(0, a), set(1, flag(true)), set(13, flag(false)), set(14, num(1)), set(500, b)}, []api.Change{set(0, a), set(1, flag(true)), gone(11), gone(12), set(13, flag(false)), set(14, num(1)), gone(17), set(500, b)}, api.OK},
		{"one key set, another one of its group taken out", []api.Change{gone(11), set(12, a)}, []api.Change{gone(11), set(12, a), gone(13), gone(17)}, api.OK},
		{"one key set, all others of its group taken out", []api.Change{gone(11), gone(12), set(13, flag(true)), gone(17)}, []api.Change{gone(11), gone(12), set(13, flag(true)), gone(17)}, api.OK},
		{"one key set, one of another group taken out", []api.Change{set(10, num(2)), gone(11)}, []api.Change{set(10, num(2)), gone(11), gone(16)}, api.OK},
		{"two of a group", []api.Change{set(11, num(1)), set(12, a)}, nil, api.ErrMalformed},
		{"the two of a group", []api.Change{set(10, num(1)), set(16, value.Float(1))}, nil, api.ErrMalformed},
		{"two of a group with others between", []api.Change{set(11, num(1)), set(14, num(1)), set(16, value.Float(1)), set(17, num(1))}, nil, api.ErrMalformed},
		{"two of a group, a third one taken out", []api.Change{set(11, num(1)), gone(12), set(13, flag(true))}, nil, api.ErrMalformed},
		{"all of a group", []api.Change{set(11, num(1)), set(12, a), set(13, flag(true)), set(17, num(1))}, nil, api.ErrMalformed},
		{"two of a group behind one of another", []api.Change{set(10, num(1)), set(11, num(1)), set(12, a)}, nil, api.ErrMalformed},
		{"values of other kinds", []api.Change{set(11, a), set(16, api.Value{})}, []api.Change{gone(10), set(11, a), gone(12), gone(13), set(16, api.Value{}), gone(17)}, api.OK},
		{"Gone with a value", []api.Change{{Key: 11, Gone: true, Value: a}, set(12, b)}, []api.Change{{Key: 11, Gone: true, Value: a}, set(12, b), gone(13), gone(17)}, api.OK},
	}
	for _, c := range cases {
		p, e := Complete(s, c.p)
		checkPatch(t, "Complete of "+c.what, p, e, c.want, c.e)
		checkComplete(t, s, good(), c.p)
	}
}

func TestCompleteOfAllShortPatches(t *testing.T) {
	rows := [][]int{
		{10, 11, 12, 13, 14, 16, 17, 1000},
		{0, 1, 2, 11, 12, 15, 16, 1001},
		{math.MinInt, -1, 10, 11, 14, 17, 1000, math.MaxInt},
		{1, 2, 4, 5, 6, 14, 15, 1<<32 + 11},
		{3, 5, 7, 9, 11, 13, 15},
	}
	for _, keys := range rowsOfKeys() {
		s := made(t, keys)
		for _, row := range rows {
			if len(keys) == api.MaxKeys {
				row = row[2:7] // what is completed is long there
			}
			for _, p := range patchesOf(row) {
				checkComplete(t, s, keys, p)
			}
		}
	}
}

// TestCompleteOfEachTwo has each two keys of a schema, each of them set or taken out, and each key alone.
func TestCompleteOfEachTwo(t *testing.T) {
	for _, keys := range rowsOfKeys() {
		s := made(t, keys)
		for i, k := range keys {
			checkComplete(t, s, keys, []api.Change{set(k.ID, num(1))})
			checkComplete(t, s, keys, []api.Change{gone(k.ID)})
			for _, o := range keys[i+1:] {
				for _, p := range patchesOf([]int{k.ID, o.ID}) {
					checkComplete(t, s, keys, p)
				}
			}
		}
	}
}

// TestCompleteOfWholeGroups sets one key, and takes out all others, or all but one, of the whole schema.
func TestCompleteOfWholeGroups(t *testing.T) {
	for _, keys := range rowsOfKeys() {
		s := made(t, keys)
		for _, k := range keys {
			var p []api.Change
			for _, o := range keys {
				c := gone(o.ID)
				if o.ID == k.ID {
					c = set(o.ID, num(1))
				}
				p = append(p, c)
			}
			got, e := Complete(s, p)
			checkPatch(t, "Complete of what is completed", got, e, p, api.OK)
			for i := 0; i < len(p); i += 1 + i/4 {
				checkComplete(t, s, keys, slices.Delete(slices.Clone(p), i, i+1))
				checkComplete(t, s, keys, p[i:])
				checkComplete(t, s, keys, p[:i])
			}
		}
	}
}

// TestCompleteOfOneOfEachGroup sets in each group one key, in turn the first, the next, and so on.
func TestCompleteOfOneOfEachGroup(t *testing.T) {
	keys := full()
	s := made(t, keys)
	for turn := range 8 {
		seen := map[int]int{}
		var p []api.Change
		for _, k := range keys {
			if k.Group == 0 {
				continue
			}
			if seen[k.Group] == turn%3 {
				p = append(p, set(k.ID, num(int64(turn))))
			}
			seen[k.Group]++
		}
		if len(p) != 8 {
			t.Fatalf("%d groups", len(p))
		}
		checkComplete(t, s, keys, p)
		checkComplete(t, s, keys, p[turn:])
		got, e := Complete(s, p)
		blocks := slices.DeleteFunc(slices.Clone(keys), func(k api.Key) bool { return k.Group == 0 })
		if e != api.OK || len(got) != len(blocks) {
			t.Fatalf("%d changes, %d; want %d", len(got), e, len(blocks))
		}
	}
}

// TestCompleteKeepsValues: what is completed has the changes of the patch as they are, whatever their values.
func TestCompleteKeepsValues(t *testing.T) {
	s := made(t, good())
	for _, v := range slices.Concat(noInts(), valuesOf(2), []api.Value{{Kind: 2, N: 3, S: "a"}, {Kind: 4, S: strings.Repeat("a", 65)}, {Kind: 4, S: "\xff"}}) {
		for _, key := range someKeys() {
			checkComplete(t, s, good(), []api.Change{set(key, v)})
			checkComplete(t, s, good(), []api.Change{{Key: key, Gone: true, Value: v}})
		}
	}
}

// TestOneKeyOfAGroup: behind a completed patch a set has of each group that the patch sets one key alone, and all that the patch names not as it had it.
func TestOneKeyOfAGroup(t *testing.T) {
	for _, keys := range rowsOfKeys() {
		s := made(t, keys)
		r := rule(len(keys))
		for range 400 {
			before, p := r.set(keys, 1+r.upTo(3)), r.patch(keys, 6, 3)
			got, e := Complete(s, p)
			if e != api.OK {
				continue
			}
			after := patch.Apply(before, got)
			for _, c := range p {
				v, there := attrs.Get(after, c.Key)
				if there == c.Gone || !c.Gone && v != c.Value {
					t.Fatalf("%v on %v: %v", got, before, after)
				}
				for _, o := range othersOf(keys, c.Key) {
					if !c.Gone && hasAttr(after, o) {
						t.Fatalf("%v on %v has %d, too: %v", got, before, o, after)
					}
				}
			}
			for _, a := range before {
				if v, there := attrs.Get(after, a.Key); !hasChange(got, a.Key) && (!there || v != a.Value) {
					t.Fatalf("%v on %v changes %d: %v", got, before, a.Key, after)
				}
			}
		}
	}
}

// TestCompleteOfLongPatches has more changes than a schema has keys.
func TestCompleteOfLongPatches(t *testing.T) {
	for _, keys := range [][]api.Key{good(), full(), together(3)} {
		s := made(t, keys)
		for _, setOne := range []int{0, 1, 11, 12, 16, 23, 500, 1000} {
			var p []api.Change
			for key := -20; key < 1100; key++ {
				c := gone(key)
				if _, there := keyOf(keys, key); key == setOne || !there && key%3 == 0 {
					c = set(key, num(int64(key)))
				}
				p = append(p, c)
			}
			got, e := Complete(s, p)
			checkPatch(t, "Complete of a long patch", got, e, p, api.OK)
			checkComplete(t, s, keys, slices.DeleteFunc(p, func(c api.Change) bool { return c.Gone && c.Key%2 == 0 }))
		}
	}
}

// P14.2

func TestSplitInWords(t *testing.T) {
	s := made(t, good())
	all := wholeSet(good(), 0)
	pick := func(keys ...int) []api.Attr {
		return slices.DeleteFunc(slices.Clone(all), func(a api.Attr) bool { return !slices.Contains(keys, a.Key) })
	}
	cases := []struct {
		what      string
		set, want []api.Attr
	}{
		{"none", nil, nil},
		{"an empty one", []api.Attr{}, nil},
		{"all", all, pick(10, 12, 14, 17, 1000)},
		{"block keys with After", pick(10, 12, 14, 17, 1000), pick(10, 12, 14, 17, 1000)},
		{"block keys without After", pick(11, 13, 15, 16), nil},
		{"inline keys", pick(1, 2, 4, 5, 6), nil},
		{"keys that the schema has not", pick(0, 3, 7, 9, 18, 999, 1001), nil},
		{"two of one group", pick(11, 12, 17), pick(12, 17)},
		{"one key of no group", pick(14, 15), pick(14)},
	}
	for _, c := range cases {
		checkSet(t, "Split of "+c.what, Split(s, c.set), c.want)
		checkSplit(t, s, good(), c.set)
	}
}

func TestTypedInWords(t *testing.T) {
	s := made(t, good())
	left, right := wholeSet(good(), 0), wholeSet(good(), 500)
	pick := func(of []api.Attr, keys ...int) []api.Attr {
		return slices.DeleteFunc(slices.Clone(of), func(a api.Attr) bool { return !slices.Contains(keys, a.Key) })
	}
	both := func(a, b []api.Attr) []api.Attr {
		l := slices.Concat(a, b)
		slices.SortFunc(l, attrsByKeys)
		return l
	}
	cases := []struct {
		what              string
		left, right, want []api.Attr
	}{
		{"none", nil, nil, nil},
		{"empty ones", []api.Attr{}, []api.Attr{}, nil},
		{"all", left, right, both(pick(left, 1, 2, 6), pick(right, 4))},
		{"all and none", left, nil, pick(left, 1, 2, 6)},
		{"none and all", nil, right, pick(right, 2, 4, 6)},
		{"After alone", pick(left, 1), pick(right, 1), pick(left, 1)},
		{"After alone, on the right", nil, pick(right, 1), nil},
		{"Before alone", pick(left, 4), pick(right, 4), pick(right, 4)},
		{"Before alone, on the left", pick(left, 4), nil, nil},
		{"both flags, on the left", pick(left, 2), nil, pick(left, 2)},
		{"both flags, on the right", nil, pick(right, 2), pick(right, 2)},
		{"both flags, on both sides", pick(left, 2, 6), pick(right, 2, 6), pick(left, 2, 6)},
		{"both flags, one key on each side", pick(left, 6), pick(right, 2), both(pick(left, 6), pick(right, 2))},
		{"neither flag", pick(left, 5), pick(right, 5), nil},
		{"block keys with After", pick(left, 10, 12, 14, 17, 1000), pick(right, 10, 12, 14, 17, 1000), nil},
		{"keys that the schema has not", pick(left, 0, 3, 7, 18, 1001), pick(right, 0, 3, 7, 18, 1001), nil},
		{"what shares nothing", pick(left, 1, 5), pick(right, 4, 6), both(pick(left, 1), pick(right, 4, 6))},
		{"alike sides", left, left, pick(left, 1, 2, 4, 6)},
	}
	for _, c := range cases {
		checkSet(t, "Typed of "+c.what, Typed(s, c.left, c.right), c.want)
		checkTyped(t, s, good(), c.left, c.right)
	}
}

func TestSplitOfAllShortSets(t *testing.T) {
	rows := [][]int{someKeys()[:9], someKeys()[9:20], {10, 11, 12, 13, 14, 15, 16, 17, 999, 1000, 1001}, {1, 2, 3, 4, 5, 6, 7, 10, 12, 14}}
	for _, keys := range rowsOfKeys() {
		s := made(t, keys)
		for _, row := range rows {
			for _, set := range setsOf(row, 3) {
				checkSplit(t, s, keys, set)
			}
		}
	}
}

func TestTypedOfAllShortSets(t *testing.T) {
	rows := [][]int{{0, 1, 2, 4, 5, 6, 12}, {1, 2, 3, 4, 10, 14, 1000}, {-1, 1, 4, 11, 12, 1001, math.MaxInt}, {1, 16, 17, 32, 33, 79, 95}}
	for _, keys := range rowsOfKeys() {
		s := made(t, keys)
		for _, row := range rows {
			for _, left := range setsOf(row, 0) {
				for _, right := range setsOf(row, 500) {
					checkTyped(t, s, keys, left, right)
				}
			}
		}
	}
}

// TestEachSortOfKey has one key alone of each sort: inline with After and Before or not, block with After or not, of a group or none, of each kind.
func TestEachSortOfKey(t *testing.T) {
	for i := range 64 {
		k := api.Key{ID: 7, Kind: uint8(1 + i%4), Block: i&4 != 0, After: i&8 != 0}
		switch {
		case k.Block && i&16 != 0:
			k.Group = 1 + i&7
		case !k.Block:
			k.Before = i&16 != 0
		}
		s := made(t, []api.Key{k})
		one, other := []api.Attr{attr(7, num(1))}, []api.Attr{attr(7, num(2))}
		var split, left, right, both []api.Attr
		if k.Block && k.After {
			split = one
		}
		if !k.Block && k.After {
			left, both = one, one
		}
		if !k.Block && k.Before {
			right = other
		}
		if both == nil {
			both = right
		}
		checkSet(t, "Split", Split(s, one), split)
		checkSet(t, "Typed of the left", Typed(s, one, nil), left)
		checkSet(t, "Typed of the right", Typed(s, nil, other), right)
		checkSet(t, "Typed of both", Typed(s, one, other), both)
	}
}

// TestValuesAreHandedOn: each value goes as it is, whatever it is, of whatever kind its key is.
func TestValuesAreHandedOn(t *testing.T) {
	s := made(t, good())
	for _, v := range slices.Concat(noInts(), valuesOf(2), []api.Value{{Kind: 2, N: 3, S: "a"}, {Kind: 4, S: "\xff"}}) {
		for _, key := range someKeys() {
			one, other := []api.Attr{attr(key, v)}, []api.Attr{attr(key, num(77))}
			checkSplit(t, s, good(), one)
			checkTyped(t, s, good(), one, nil)
			checkTyped(t, s, good(), nil, one)
			checkTyped(t, s, good(), one, other)
			checkTyped(t, s, good(), other, one)
		}
	}
}

func TestLongSets(t *testing.T) {
	var left, right []api.Attr
	for key := -500; key < 1500; key++ {
		left = append(left, attr(key, num(int64(key))))
		if key%3 != 0 {
			right = append(right, attr(key, num(int64(-key))))
		}
	}
	for _, keys := range rowsOfKeys() {
		s := made(t, keys)
		checkSplit(t, s, keys, left)
		checkSplit(t, s, keys, right)
		checkTyped(t, s, keys, left, right)
		checkTyped(t, s, keys, right, left)
		checkTyped(t, s, keys, left, left)
		checkTyped(t, s, keys, nil, right)
		for _, key := range []int{3, 10, 11, 14, 16, 1000} {
			checkStep(t, s, keys, left, key, -1)
			checkStep(t, s, keys, right, key, 1)
		}
	}
}

// P14.3

func TestStepInWords(t *testing.T) {
	s := made(t, good())
	of := func(key int, n int64) []api.Attr { return []api.Attr{attr(key, num(n))} }
	to := func(n int64) []api.Change { return []api.Change{set(11, num(n)), gone(12), gone(13), gone(17)} }
	none := []api.Change{}
	out := []api.Change{gone(11)}
	a := attr(12, text("a"))
	cases := []struct {
		set     []api.Attr
		key, by int
		want    []api.Change
		e       api.Errno
	}{
		{nil, 11, 0, none, api.OK},
		{nil, 11, 1, to(1), api.OK},
		{nil, 11, -1, none, api.OK},
		{nil, 11, 8, to(8), api.OK},
		{nil, 11, 9, to(8), api.OK},
		{nil, 11, math.MaxInt, to(8), api.OK},
		{nil, 11, math.MinInt, none, api.OK},
		{of(11, 7), 11, 0, none, api.OK},
		{of(11, 7), 11, 1, to(8), api.OK},
		{of(11, 7), 11, 5, to(8), api.OK},
		{of(11, 7), 11, -5, to(2), api.OK},
		{of(11, 7), 11, -6, to(1), api.OK},
		{of(11, 7), 11, -7, out, api.OK},
		{of(11, 7), 11, -8, out, api.OK},
		{of(11, 8), 11, 0, none, api.OK},
		{of(11, 8), 11, 1, none, api.OK},
		{of(11, 8), 11, -1, to(7), api.OK},
		{of(11, 8), 11, -8, out, api.OK},
		{of(11, 8), 11, math.MinInt, out, api.OK},
		{of(11, 9), 11, 0, to(8), api.OK},
		{of(11, 9), 11, -1, to(7), api.OK},
		{of(11, math.MaxInt64), 11, -1, to(7), api.OK},
		{of(11, math.MaxInt64), 11, math.MaxInt, to(8), api.OK},
		{of(11, 0), 11, 0, out, api.OK},
		{of(11, 0), 11, 1, to(1), api.OK},
		{of(11, 0), 11, -1, out, api.OK},
		{of(11, -1), 11, 0, out, api.OK},
		{of(11, -1), 11, 1, to(1), api.OK},
		{of(11, math.MinInt64), 11, 2, to(2), api.OK},
		{of(11, math.MinInt64), 11, math.MinInt, out, api.OK},
		{[]api.Attr{attr(11, text("7"))}, 11, 0, out, api.OK},
		{[]api.Attr{attr(11, text("7"))}, 11, 1, to(1), api.OK},
		{[]api.Attr{attr(11, flag(true))}, 11, 1, to(1), api.OK},
		{[]api.Attr{a}, 11, 0, none, api.OK},
		{[]api.Attr{a}, 11, -3, none, api.OK},
		{[]api.Attr{a}, 11, 1, to(1), api.OK},
		{[]api.Attr{attr(11, num(3)), a}, 11, 0, to(3), api.OK},
		{[]api.Attr{attr(11, num(3)), a}, 11, -3, out, api.OK},
		{[]api.Attr{attr(11, num(8)), attr(17, num(2))}, 11, 4, to(8), api.OK},
		{[]api.Attr{attr(10, num(8)), attr(11, num(8)), attr(14, num(2)), attr(16, num(2))}, 11, 4, none, api.OK},
		{of(14, 2), 14, 1, []api.Change{set(14, num(3))}, api.OK},
		{of(14, 2), 14, -2, []api.Change{gone(14)}, api.OK},
		{of(14, 2), 14, 0, none, api.OK},
		{of(10, 2), 10, 1, []api.Change{set(10, num(3)), gone(16)}, api.OK},
		{of(1000, 2), 1000, 1, []api.Change{set(1000, num(3))}, api.OK},
		{of(11, 7), 2, 1, nil, api.ErrScope},  // an inline key of ValInt
		{of(11, 7), 5, 0, nil, api.ErrScope},  // another one, by nothing
		{of(5, 7), 5, 1, nil, api.ErrScope},   // another one, which the set has
		{of(11, 7), 1, 1, nil, api.ErrKey},    // an inline key, and not of ValInt
		{of(11, 7), 4, 1, nil, api.ErrKey},    // likewise
		{of(11, 7), 12, 1, nil, api.ErrKey},   // a block key, not of ValInt
		{of(12, 7), 12, 1, nil, api.ErrKey},   // likewise, but the set has a number of it
		{of(15, 7), 15, 0, nil, api.ErrKey},   // likewise
		{of(18, 7), 18, 1, nil, api.ErrKey},   // no key of the schema
		{of(0, 7), 0, 1, nil, api.ErrKey},     // likewise
		{of(11, 7), -11, 1, nil, api.ErrKey},  // likewise
		{of(11, 7), 1001, 1, nil, api.ErrKey}, // likewise
	}
	for _, c := range cases {
		p, e := Step(s, c.set, c.key, c.by)
		checkPatch(t, "Step", p, e, c.want, c.e)
		checkStep(t, s, good(), c.set, c.key, c.by)
	}
}

// TestStepOfEachNumber goes from each number by each, of a key alone in its group, of one with others, and of one of no group.
func TestStepOfEachNumber(t *testing.T) {
	for _, keys := range [][]api.Key{example(), good(), together(5)} {
		s := made(t, keys)
		for _, key := range []int{10, 11, 14, 17, 1000} {
			for _, by := range bys() {
				checkStep(t, s, keys, nil, key, by)
				for _, n := range numbers() {
					checkStep(t, s, keys, []api.Attr{attr(key, num(n))}, key, by)
				}
				for _, v := range noInts() {
					checkStep(t, s, keys, []api.Attr{attr(key, v)}, key, by)
				}
			}
		}
	}
}

// TestStepBesideOthers has beside the key each other key of the schema, and those that it has not.
func TestStepBesideOthers(t *testing.T) {
	for _, keys := range rowsOfKeys() {
		s := made(t, keys)
		for _, key := range someKeys() {
			for _, beside := range slices.Concat(someKeys(), idsOf(keys)) {
				if beside == key {
					continue
				}
				for _, n := range []int64{0, 3, 8} {
					both := []api.Attr{attr(key, num(n)), attr(beside, num(3))}
					slices.SortFunc(both, attrsByKeys)
					alone := []api.Attr{attr(beside, num(n))}
					for _, by := range []int{-3, 0, 1} {
						checkStep(t, s, keys, both, key, by)
						checkStep(t, s, keys, alone, key, by)
					}
				}
			}
		}
	}
}

// TestStepOfEachKey asks of all keys of all schemas, and of those beside them, which are none.
func TestStepOfEachKey(t *testing.T) {
	for _, keys := range rowsOfKeys() {
		s := made(t, keys)
		whole := wholeSet(keys, 0)
		for _, key := range slices.Concat(someKeys(), keysOf(whole)) {
			for _, by := range []int{math.MinInt, -9, -8, -2, -1, 0, 1, 2, 8, 9, math.MaxInt} {
				checkStep(t, s, keys, nil, key, by)
				checkStep(t, s, keys, whole, key, by)
				checkStep(t, s, keys, attrs.Without(whole, key), key, by)
			}
		}
	}
}

// TestStepOfAllShortSets goes over all sets of the keys of two groups, and some beside them.
func TestStepOfAllShortSets(t *testing.T) {
	for _, keys := range [][]api.Key{example(), good(), together(2)} {
		s := made(t, keys)
		for _, add := range []int64{-3, 0, 1, 4} {
			for _, set := range setsOf([]int{2, 10, 11, 12, 13, 16, 17, 1000}, add) {
				for _, key := range []int{2, 10, 11, 12, 17, 1000} {
					for _, by := range []int{-8, -3, 0, 1, 4} {
						checkStep(t, s, keys, set, key, by)
					}
				}
			}
		}
	}
}

// TestValuesThatAreNotThatVeryOne: a number with more in its other fields is of ValInt, but not that very value, so that it is set anew.
func TestValuesThatAreNotThatVeryOne(t *testing.T) {
	s := made(t, good())
	for _, v := range []api.Value{{Kind: 2, N: 3, S: "a"}, {Kind: 2, N: 3, F: 1}, {Kind: 2, N: 0, S: "a"}, {Kind: 2, N: 8, F: 1 << 63}} {
		for _, key := range []int{10, 11, 14, 1000} {
			for _, by := range bys() {
				checkStep(t, s, good(), []api.Attr{attr(key, v)}, key, by)
			}
		}
	}
	p, e := Step(s, []api.Attr{attr(14, api.Value{Kind: 2, N: 3, S: "a"})}, 14, 0)
	checkPatch(t, "Step of a number with a text", p, e, []api.Change{set(14, num(3))}, api.OK)
}

// TestUpAndDown steps one by one to the greatest number and beyond, and back to nothing and beyond.
func TestUpAndDown(t *testing.T) {
	s := made(t, good())
	on := []api.Attr{attr(12, text("a")), attr(14, num(2))}
	step := func(by int) {
		p, e := Step(s, on, 11, by)
		if e != api.OK {
			t.Fatal("Step", e)
		}
		on = patch.Apply(on, p)
	}
	for i := range int64(12) {
		step(1)
		checkSet(t, "up", on, []api.Attr{attr(11, num(min(i+1, 8))), attr(14, num(2))})
	}
	for i := range int64(12) {
		step(-1)
		want := []api.Attr{attr(11, num(7-i)), attr(14, num(2))}
		if i >= 7 {
			want = want[1:]
		}
		checkSet(t, "down", on, want)
	}
}

// What holds of all.

// TestNoSchema: a schema that is not there, and a zero one, have no keys, so that nothing is of a group, and nothing is handed on.
func TestNoSchema(t *testing.T) {
	for _, s := range []*schema.Schema{nil, {}, made(t, nil)} {
		for _, keys := range rowsOfKeys() {
			whole := wholeSet(keys, 0)
			checkSplit(t, s, nil, whole)
			checkTyped(t, s, nil, whole, whole)
			checkTyped(t, s, nil, whole, nil)
			checkTyped(t, s, nil, nil, whole)
			checkTyped(t, s, nil, nil, nil)
			for _, k := range keys {
				for _, by := range []int{math.MinInt, -1, 0, 1, math.MaxInt} {
					p, e := Step(s, whole, k.ID, by)
					checkPatch(t, "Step", p, e, nil, api.ErrKey)
				}
			}
		}
		for _, p := range patchesOf([]int{-1, 1, 11, 12, 13, 14, 1000}) {
			got, e := Complete(s, p)
			checkPatch(t, "Complete", got, e, p, api.OK)
		}
	}
}

// handed are a patch and two sets, with others behind them in their memory.
type handed struct {
	p           []api.Change
	left, right []api.Attr
	key, by     int
}

func (h handed) copy() handed {
	return handed{slices.Clone(h.p), slices.Clone(h.left), slices.Clone(h.right), h.key, h.by}
}

func (h handed) first(n int) handed {
	return handed{h.p[:min(n, len(h.p))], h.left[:min(n, len(h.left))], h.right[:min(n, len(h.right))], h.key, h.by}
}

func (h handed) writeOver() {
	scrawlPatch(h.p)
	scrawlSet(h.left)
	scrawlSet(h.right)
}

func scrawlPatch(p []api.Change) {
	p = p[:cap(p)]
	for i := range p {
		p[i] = api.Change{Key: 500 + i, Gone: i%2 == 0, Value: num(77)}
	}
}

func scrawlSet(set []api.Attr) {
	set = set[:cap(set)]
	for i := range set {
		set[i] = attr(500+i, num(77))
	}
}

type answers struct {
	patches [][]api.Change
	errnos  []api.Errno
	sets    [][]api.Attr
}

// all calls each function with what is handed in.
func all(s *schema.Schema, h handed) answers {
	var a answers
	p, e := Complete(s, h.p)
	a.patches, a.errnos = append(a.patches, p), append(a.errnos, e)
	for _, set := range [][]api.Attr{h.left, h.right, nil} {
		p, e := Step(s, set, h.key, h.by)
		a.patches, a.errnos = append(a.patches, p), append(a.errnos, e)
	}
	a.sets = [][]api.Attr{Split(s, h.left), Split(s, h.right), Typed(s, h.left, h.right), Typed(s, h.left, nil), Typed(s, nil, h.right), Typed(s, h.left, h.left)}
	return a
}

func (a answers) writeOver() {
	for _, p := range a.patches {
		scrawlPatch(p)
	}
	for _, set := range a.sets {
		scrawlSet(set)
	}
}

func checkAnswers(t *testing.T, what string, a, want answers) {
	t.Helper()
	for i := range a.patches {
		checkPatch(t, what, a.patches[i], a.errnos[i], want.patches[i], want.errnos[i])
	}
	for i := range a.sets {
		checkSet(t, what, a.sets[i], want.sets[i])
	}
}

func checkHanded(t *testing.T, what string, h, want handed) {
	t.Helper()
	checkPatch(t, what, h.p, api.OK, want.p, api.OK)
	checkSet(t, what, h.left, want.left)
	checkSet(t, what, h.right, want.right)
}

// someHanded have rows that are completed and that are at odds, that hand on all, some and nothing, and that do not rise.
func someHanded() []handed {
	whole := wholeSet(good(), 0)
	p := []api.Change{set(0, num(1)), set(1, flag(true)), set(10, num(1)), gone(11), set(12, text("a")), set(14, num(1)), gone(15), set(1000, num(2))}
	odds := []api.Change{gone(10), set(11, num(1)), set(12, text("a")), gone(13), set(14, num(1))}
	inline := []api.Attr{attr(1, flag(true)), attr(2, num(1)), attr(4, text("a")), attr(6, text("b"))}
	block := []api.Attr{attr(10, num(1)), attr(12, text("a")), attr(14, num(1)), attr(17, num(3)), attr(1000, num(2))}
	falling, fallingPatch := slices.Clone(whole), slices.Clone(p)
	slices.Reverse(falling)
	slices.Reverse(fallingPatch)
	return []handed{
		{p, whole, wholeSet(good(), 500), 11, 1},
		{odds, inline, block, 10, -1},
		{p[:2], block, inline, 14, 3},
		{p[3:], inline, inline[1:3], 1000, 0},
		{p[5:], block, whole, 17, -9},
		{odds[3:], inline[:2], inline[2:], 2, 1},
		{fallingPatch, falling, whole, 11, 1},
		{fallingPatch[2:], block, falling, 12, 1},
		{nil, nil, nil, 11, 1},
	}
}

// TestHandedInIsNotWrittenTo asks of the lists, and of what stands behind them in their memory.
func TestHandedInIsNotWrittenTo(t *testing.T) {
	s := made(t, good())
	for _, want := range someHanded() {
		for n := range 40 {
			h := want.copy()
			all(s, h.first(n))
			checkHanded(t, "what was handed in, behind the calls", h, want)
		}
	}
}

// TestHandedInMayBeWrittenOver writes over the lists behind the calls: what was answered stays.
func TestHandedInMayBeWrittenOver(t *testing.T) {
	s := made(t, good())
	for _, one := range someHanded() {
		for n := range 40 {
			want := all(s, one.copy().first(n))
			h := one.copy()
			a := all(s, h.first(n))
			h.writeOver()
			checkAnswers(t, "what was answered, behind writing over what was handed in", a, want)
		}
	}
}

// TestAnswersMayBeWrittenOver writes over each answer, and behind it: what was handed in stays, and the schema, and what else was answered, and is answered then.
func TestAnswersMayBeWrittenOver(t *testing.T) {
	s := made(t, good())
	for _, want := range someHanded() {
		for n := range 40 {
			h := want.copy()
			others := all(s, h.first(n))
			all(s, h.first(n)).writeOver()
			checkHanded(t, "what was handed in, behind writing over what was answered", h, want)
			if !slices.Equal(s.Keys(), good()) {
				t.Fatalf("the schema's keys: %+v", s.Keys())
			}
			checkAnswers(t, "what else was answered, behind writing over what was answered", others, all(s, h.first(n)))
		}
	}
}

// TestAnswersOneByOne: no two lists that are answered share memory, so that each may be written over alone.
func TestAnswersOneByOne(t *testing.T) {
	s := made(t, good())
	for _, h := range someHanded() {
		want := all(s, h)
		count := len(want.patches) + len(want.sets)
		for i := range count {
			a := all(s, h)
			kept := answers{slices.Clone(want.patches), want.errnos, slices.Clone(want.sets)}
			if i < len(a.patches) {
				scrawlPatch(a.patches[i])
				kept.patches[i] = slices.Clone(a.patches[i])
			} else {
				j := i - len(a.patches)
				scrawlSet(a.sets[j])
				kept.sets[j] = slices.Clone(a.sets[j])
			}
			checkAnswers(t, "what else was answered", a, kept)
		}
	}
}

// TestListsThatDoNotRise: with sets and patches whose keys do not rise all calls end, and none panics.
func TestListsThatDoNotRise(t *testing.T) {
	of := []int{math.MinInt, 1, 2, 4, 10, 11, 11, 12, 16, 1000, math.MaxInt}
	var sets [][]api.Attr
	var patches [][]api.Change
	for i, key := range of {
		for j, other := range of {
			for k, third := range of {
				sets = append(sets, []api.Attr{attr(key, num(int64(i))), attr(other, num(int64(j))), attr(third, text("a"))})
				p := []api.Change{set(key, num(1)), gone(other), set(third, num(2))}
				p[(i+j+k)%3].Gone = (i+k)%2 == 0
				patches = append(patches, p)
			}
		}
	}
	long := slices.Repeat([]api.Attr{attr(1000, num(1)), attr(11, num(3)), attr(1, flag(true)), attr(11, num(4)), attr(4, text("a"))}, 400)
	longPatch := slices.Repeat([]api.Change{set(1000, num(1)), gone(11), set(1, flag(true)), gone(12)}, 400)
	sets = append(sets, long, make([]api.Attr, 1000))
	patches = append(patches, longPatch, longPatch[1:], slices.Repeat([]api.Change{gone(11)}, 5000), make([]api.Change, 1000))
	for _, s := range []*schema.Schema{made(t, good()), made(t, full()), made(t, together(1)), {}, nil} {
		for i, p := range patches {
			for _, key := range []int{1, 10, 11, 16, 1000} {
				all(s, handed{p, sets[i%len(sets)], sets[(7*i+3)%len(sets)], key, i%5 - 2})
			}
		}
		all(s, handed{longPatch, long, long, 11, 1})
	}
}

// TestAskedAgain: nothing is kept from call to call.
func TestAskedAgain(t *testing.T) {
	s := made(t, good())
	for _, h := range someHanded() {
		first := all(s, h.copy())
		for _, o := range someHanded() {
			all(s, o)
			checkAnswers(t, "what is answered again", all(s, h.copy()), first)
			checkAnswers(t, "what is answered by a schema of the same keys", all(made(t, good()), h.copy()), first)
		}
	}
}

// TestLongRowsOfCalls asks by a rule of many schemas, with patches and sets of many sorts.
func TestLongRowsOfCalls(t *testing.T) {
	r := rule(14)
	odds, completed, stepped := 0, 0, 0
	for range 1000 {
		keys := r.keys()
		s := made(t, keys)
		for range 12 {
			p := r.patch(keys, 1+r.upTo(30), 1+r.upTo(4))
			checkComplete(t, s, keys, p)
			if atOdds(keys, p) {
				odds++
			} else {
				completed++
			}
			left, right := r.set(keys, 1+r.upTo(6)), r.set(keys, 1+r.upTo(6))
			checkSplit(t, s, keys, left)
			checkTyped(t, s, keys, left, right)
			key := r.upTo(30)
			if len(keys) > 0 && r.upTo(5) > 0 {
				key = keys[r.upTo(len(keys))].ID
			}
			by := r.upTo(21) - 10
			checkStep(t, s, keys, left, key, by)
			if got, _ := Step(s, left, key, by); len(got) > 1 {
				stepped++
			}
		}
	}
	if odds < 1000 || completed < 2000 || stepped < 1000 {
		t.Errorf("%d patches at odds, %d others, %d steps of many keys", odds, completed, stepped)
	}
}

// TestLongRowsOfSteps steps one set by a rule, many times over; of each group that is stepped one key is left.
func TestLongRowsOfSteps(t *testing.T) {
	for _, keys := range rowsOfKeys()[1:] {
		s := made(t, keys)
		r := rule(len(keys))
		on := wholeSet(keys, 0)
		for range 3000 {
			key, by := keys[r.upTo(len(keys))].ID, r.upTo(7)-3
			checkStep(t, s, keys, on, key, by)
			p, e := Step(s, on, key, by)
			on = patch.Apply(on, p)
			v, there := attrs.Get(on, key)
			if e != api.OK {
				continue
			}
			if there && (v.N < 1 || v.N > 8) {
				t.Fatalf("Step, %d, %d: %v", key, by, v)
			}
			for _, o := range othersOf(keys, key) {
				if there && hasAttr(on, o) {
					t.Fatalf("Step, %d, %d: %v has %d, too", key, by, on, o)
				}
			}
		}
	}
}
