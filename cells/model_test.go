package cells

import (
	"math"
	"slices"
	"strings"
	"testing"

	"rubric/api"
	"rubric/attrs"
	"rubric/ops"
	"rubric/schema"
	"rubric/value"
)

// The model: the chapter's words, said of a schema's keys as a plain list, and of cells, sets and ops that are gone over from end to end.

func keyOf(keys []api.Key, id int) (api.Key, bool) {
	for _, k := range keys {
		if k.ID == id {
			return k, true
		}
	}
	return api.Key{}, false
}

func runeMay(r int32) bool {
	return 0 <= r && r < 0xd800 || 0xdfff < r && r <= 0x10ffff
}

func setMalformed(set []api.Attr) bool {
	for i, a := range set {
		if i == 64 || i > 0 && set[i-1].Key >= a.Key || !value.May(a.Value) {
			return true
		}
	}
	return false
}

func setWrong(keys []api.Key, set []api.Attr) bool {
	for _, a := range set {
		if k, there := keyOf(keys, a.Key); !there || k.Kind != a.Value.Kind {
			return true
		}
	}
	return false
}

// has tells whether the set has a block key, or, if block is false, an inline key.
func has(keys []api.Key, set []api.Attr, block bool) bool {
	for _, a := range set {
		if k, there := keyOf(keys, a.Key); there && k.Block == block {
			return true
		}
	}
	return false
}

// mayOf is what May has to answer of at most MaxLen cells.
func mayOf(keys []api.Key, d []api.Cell) api.Errno {
	malformed, wrong, scope := false, false, false
	for _, c := range d {
		malformed = malformed || !runeMay(c.R) || setMalformed(c.Set)
		wrong = wrong || setWrong(keys, c.Set)
		scope = scope || has(keys, c.Set, c.R != 10)
	}
	switch {
	case len(d) == 0 || malformed:
		return 3
	case wrong:
		return 4
	case d[len(d)-1].R != 10:
		return 6
	case scope:
		return 7
	}
	return 0
}

// insertsOf are the greatest rows of cells with one set as inserts.
func insertsOf(d []api.Cell) []api.Op {
	var x []api.Op
	for begin := 0; begin < len(d); {
		end := begin
		var l []int32
		for end < len(d) && alikeSets(d[begin].Set, d[end].Set) {
			l = append(l, d[end].R)
			end++
		}
		x = append(x, api.Op{Kind: 2, Runes: l, Set: slices.Clone(d[begin].Set)})
		begin = end
	}
	return x
}

// deltaOf is said of one cell or more.
func deltaOf(d []api.Cell) []api.Op {
	ahead, last := d[:len(d)-1], d[len(d)-1]
	x := insertsOf(ahead)
	if len(last.Set) == 0 {
		return x
	}
	o := api.Op{Kind: 1, N: 1}
	for _, a := range last.Set {
		o.Patch = append(o.Patch, api.Change{Key: a.Key, Value: a.Value})
	}
	return append(x, o)
}

// onBlank is what the inserts, and then at most one retain, make of the blank.
func onBlank(x []api.Op) []api.Cell {
	var d []api.Cell
	last := api.Cell{R: 10}
	for _, o := range x {
		for _, r := range o.Runes {
			d = append(d, api.Cell{R: r, Set: o.Set})
		}
		for _, c := range o.Patch {
			last.Set = append(last.Set, api.Attr{Key: c.Key, Value: c.Value})
		}
	}
	return append(d, last)
}

// oneByOne are inserts of one rune each.
func oneByOne(d []api.Cell) []api.Op {
	var x []api.Op
	for _, c := range d {
		x = append(x, api.Op{Kind: 2, Runes: []int32{c.R}, Set: c.Set})
	}
	return x
}

func runesOf(d []api.Cell) []int32 {
	var l []int32
	for _, c := range d {
		l = append(l, c.R)
	}
	return l
}

func alikeValues(a, b api.Value) bool {
	return a.Kind == b.Kind && a.N == b.N && a.F == b.F && a.S == b.S
}

func alikeSets(a, b []api.Attr) bool {
	return slices.EqualFunc(a, b, func(a, b api.Attr) bool { return a.Key == b.Key && alikeValues(a.Value, b.Value) })
}

func alikePatches(p, q []api.Change) bool {
	return slices.EqualFunc(p, q, func(c, d api.Change) bool {
		return c.Key == d.Key && c.Gone == d.Gone && alikeValues(c.Value, d.Value)
	})
}

func alike(a, b []api.Cell) bool {
	return slices.EqualFunc(a, b, func(c, o api.Cell) bool { return c.R == o.R && alikeSets(c.Set, o.Set) })
}

func alikeOps(x, y []api.Op) bool {
	return slices.EqualFunc(x, y, func(o, p api.Op) bool {
		return o.Kind == p.Kind && o.N == p.N && slices.Equal(o.Runes, p.Runes) && alikeSets(o.Set, p.Set) && alikePatches(o.Patch, p.Patch)
	})
}

// The rows of the tests.

func yes() api.Value { return value.Flag(true) }

func no() api.Value { return value.Flag(false) }

func num(n int64) api.Value { return value.Int(n) }

func float(f float64) api.Value { return value.Float(f) }

func text(s string) api.Value { return api.Value{Kind: api.ValText, S: s} }

func attr(key int, v api.Value) api.Attr { return api.Attr{Key: key, Value: v} }

func bold() api.Attr { return attr(1, yes()) }

func set(key int, v api.Value) api.Change { return api.Change{Key: key, Value: v} }

func retain(p ...api.Change) api.Op { return api.Op{Kind: 1, N: 1, Patch: p} }

func insert(s string, set ...api.Attr) api.Op { return api.Op{Kind: 2, Runes: []int32(s), Set: set} }

func delta(x ...api.Op) []api.Op { return x }

func cell(r int32, set ...api.Attr) api.Cell { return api.Cell{R: r, Set: set} }

func row(c ...api.Cell) []api.Cell { return c }

// plain are the text's runes as cells without sets.
func plain(s string) []api.Cell {
	var d []api.Cell
	for _, r := range s {
		d = append(d, cell(r))
	}
	return d
}

// keys are inline and block ones of each kind.
func keys() []api.Key {
	return []api.Key{
		{ID: 1, Kind: 1}, {ID: 2, Kind: 2}, {ID: 3, Kind: 3}, {ID: 4, Kind: 4},
		{ID: 11, Block: true, Kind: 1}, {ID: 12, Block: true, Kind: 2}, {ID: 13, Block: true, Kind: 3}, {ID: 14, Block: true, Kind: 4}, {ID: 1000, Kind: 2},
	}
}

// full are as many keys as may be, inline ones or block ones.
func full(block bool) []api.Key {
	var l []api.Key
	for i := range 64 {
		l = append(l, api.Key{ID: 100 + i, Kind: 2, Block: block})
	}
	return l
}

// many are n attributes by rising keys.
func many(n int) []api.Attr {
	var l []api.Attr
	for i := range n {
		l = append(l, attr(100+i, num(int64(i))))
	}
	return l
}

func made(t *testing.T, keys []api.Key) *schema.Schema {
	t.Helper()
	s, e := schema.New(keys)
	if e != api.OK {
		t.Fatalf("a schema of %+v: %d", keys, e)
	}
	return s
}

// inlineSets are such as a cell may have that is no newline.
func inlineSets() [][]api.Attr {
	return [][]api.Attr{
		nil, {}, {bold()}, {attr(1, no())}, {attr(2, num(math.MinInt64))}, {attr(3, float(math.NaN()))}, {attr(3, float(math.Copysign(0, -1)))}, {attr(3, float(0))},
		{attr(4, text(strings.Repeat("\u00e4", 32)))}, {attr(1000, num(0))}, {bold(), attr(2, num(3)), attr(3, float(0.5)), attr(4, text("a")), attr(1000, num(-1))},
	}
}

// blockSets are such as a newline may have.
func blockSets() [][]api.Attr {
	return [][]api.Attr{
		nil, {}, {attr(11, yes())}, {attr(12, num(1))}, {attr(12, num(2))}, {attr(14, text(""))},
		{attr(11, no()), attr(12, num(-3)), attr(13, float(math.Inf(1))), attr(14, text(strings.Repeat("b", 64)))},
	}
}

// malformedSets may be in no schema.
func malformedSets() [][]api.Attr {
	l := [][]api.Attr{
		{attr(2, num(1)), bold()}, {bold(), bold()}, {bold(), attr(1, no())}, {bold(), attr(3, float(1)), attr(2, num(1))}, {attr(11, yes()), bold()}, {attr(6, num(1)), attr(6, num(1))},
		{bold(), attr(2, api.Value{})}, {attr(0, api.Value{Kind: 5})}, many(65), append(many(64), bold()),
	}
	for _, v := range malformedValues() {
		l = append(l, []api.Attr{attr(int(v.Kind), v)}, []api.Attr{bold(), attr(2, num(3)), attr(12, v)}, []api.Attr{attr(1, v), attr(2, num(3))})
	}
	return l
}

// malformedValues may not be: of no kind, out of bounds, and with fields that their kind has not.
func malformedValues() []api.Value {
	return []api.Value{
		{}, {N: 1}, {Kind: 5}, {Kind: 128}, {Kind: 255, N: 1},
		{Kind: 1, N: 2}, {Kind: 1, N: -1}, {Kind: 1, N: 1 << 32}, {Kind: 3, F: api.NaN + 1}, {Kind: 3, F: api.NaN | 1<<63},
		{Kind: 1, N: 1, F: 1}, {Kind: 1, N: 1, S: "a"}, {Kind: 2, N: 3, F: 1}, {Kind: 2, N: 3, S: "a"}, {Kind: 3, N: 1}, {Kind: 3, S: "a"}, {Kind: 4, S: "a", N: 1}, {Kind: 4, S: "a", F: 1},
		text("\xff"), text("a\x80"), text("\xc0\x80"), text("\xe2\x82"), text("\xed\xa0\x80"), text(strings.Repeat("a", 65)), text(strings.Repeat("\u00e4", 33)),
	}
}

// wrongSets are well-formed, and tell ErrKey.
func wrongSets() [][]api.Attr {
	return [][]api.Attr{
		{attr(6, num(1))}, {attr(0, num(1))}, {attr(-1, yes())}, {attr(math.MinInt, yes()), attr(math.MaxInt, yes())}, {attr(1001, num(1))}, {bold(), attr(5, num(1))}, {attr(5, num(1)), attr(1000, num(1))},
		{attr(1, num(1))}, {attr(2, yes())}, {attr(3, num(0))}, {attr(4, float(0))}, {attr(12, yes())}, {attr(14, num(1))}, {bold(), attr(2, text(""))}, {attr(1, text("")), attr(11, yes())}, many(64),
	}
}

// mixedSets have an inline key and a block key.
func mixedSets() [][]api.Attr {
	return [][]api.Attr{{bold(), attr(11, yes())}, {attr(4, text("a")), attr(12, num(1)), attr(14, text("a"))}, {attr(13, float(1)), attr(1000, num(1))}}
}

// unlikeSets are such as may be, of one schema or another, of which no two are the same; many differ in one field alone.
func unlikeSets() [][]api.Attr {
	l := [][]api.Attr{nil}
	for _, v := range []api.Value{
		yes(), no(), num(0), num(1), num(2), num(-1), num(1 << 32), num(math.MinInt64), num(math.MaxInt64),
		float(0), float(math.Copysign(0, -1)), float(1), float(math.NaN()), float(math.Inf(1)),
		text(""), text("a"), text("b"), text("aa"), text("ab"), text(strings.Repeat("a", 64)), text(strings.Repeat("a", 63) + "b"),
	} {
		l = append(l, []api.Attr{attr(1, v)})
	}
	return append(l,
		[]api.Attr{attr(2, yes())}, []api.Attr{attr(1000, yes())},
		[]api.Attr{attr(1, yes()), attr(2, yes())}, []api.Attr{attr(1, yes()), attr(3, yes())}, []api.Attr{attr(1, yes()), attr(2, no())}, []api.Attr{attr(1, no()), attr(2, yes())},
		[]api.Attr{attr(1, yes()), attr(2, yes()), attr(3, num(1))}, []api.Attr{attr(1, yes()), attr(2, yes()), attr(3, num(2))}, []api.Attr{attr(2, yes()), attr(3, num(1))},
	)
}

// someCells may stand in a document, the last of them at its end.
func someCells() []api.Cell {
	return row(cell(97), cell(98), cell(97, bold()), cell(97, attr(2, num(3))), cell(97, bold(), attr(2, num(3))), cell(0x10ffff), cell(10, attr(12, num(1))), cell(10))
}

// rowsOf are all rows of at most so many of the cells.
func rowsOf(of []api.Cell, most int) [][]api.Cell {
	l := [][]api.Cell{nil}
	longest := l
	for range most {
		var longer [][]api.Cell
		for _, d := range longest {
			for _, c := range of {
				longer = append(longer, append(slices.Clone(d), c))
			}
		}
		l = append(l, longer...)
		longest = longer
	}
	return l
}

// rule makes rows that are long and alike each time.
type rule uint64

func (r *rule) upTo(n int) int {
	*r = *r*6364136223846793005 + 1442695040888963407
	return int(uint64(*r) >> 33 % uint64(n))
}

// cell is often as the one ahead of it, with its very set or with an equal one.
func (r *rule) cell(d []api.Cell) api.Cell {
	c := cell([]int32{97, 98, 0, 0x10ffff, 10}[r.upTo(5)])
	if n := len(d); n > 0 && r.upTo(3) > 0 && (d[n-1].R == 10) == (c.R == 10) {
		c.Set = d[n-1].Set
		if r.upTo(2) == 0 {
			c.Set = slices.Clone(c.Set)
		}
		return c
	}
	l := inlineSets()
	if c.R == 10 {
		l = blockSets()
	}
	c.Set = l[r.upTo(len(l))]
	return c
}

// document is one that may be, of the schema of the keys.
func (r *rule) document(most int) []api.Cell {
	var d []api.Cell
	for range r.upTo(most) {
		d = append(d, r.cell(d))
	}
	l := blockSets()
	return append(d, cell(10, l[r.upTo(len(l))]...))
}

// wrong is a cell that has one fault or more now and then.
func (r *rule) wrong(c api.Cell) api.Cell {
	sets := [][][]api.Attr{malformedSets(), wrongSets(), mixedSets(), inlineSets(), blockSets()}[r.upTo(5)]
	switch r.upTo(4) {
	case 0:
		c.R = []int32{-1, 0xd800, 0xdfff, 0x110000, 10, 97}[r.upTo(6)]
	case 1:
		c.R = 97
	}
	c.Set = sets[r.upTo(len(sets))]
	return c
}

// documents are such as may be, of the schema of the keys.
func documents() [][]api.Cell {
	r := rule(18)
	l := [][]api.Cell{
		plain("\n"), plain("a\n"), plain("\n\n\n"), row(cell(10, attr(12, num(1)))), row(cell(97, bold()), cell(10, attr(11, yes()), attr(12, num(1)))),
		row(cell(97), cell(98, bold()), cell(10)), row(cell(10, attr(12, num(1))), cell(10, attr(12, num(1)))), row(cell(10, attr(12, num(1))), cell(10, attr(12, num(2)))),
	}
	for range 60 {
		l = append(l, r.document(30))
	}
	return l
}

// strange are cells that may not be, each in its way.
func strange() [][]api.Cell {
	l := [][]api.Cell{nil, {}, plain("a"), plain("ab\nc"), {cell(-1)}, {cell(math.MinInt32, bold()), cell(math.MaxInt32, bold())}, {cell(0xd800), cell(0xdfff), cell(10)}, {cell(10, bold())}, {cell(97, attr(12, num(1))), cell(10)}}
	for _, s := range slices.Concat(malformedSets(), wrongSets(), mixedSets()) {
		l = append(l, row(cell(97, s...)), row(cell(97), cell(98, s...), cell(99, s...), cell(0xd800, s...), cell(10)), row(cell(97, s...), cell(10, s...)))
	}
	falling := slices.Repeat([]api.Attr{attr(9, num(1)), attr(3, api.Value{Kind: 77, N: 1, F: 1, S: "\xff"}), attr(3, num(2)), attr(math.MinInt, yes()), attr(math.MaxInt, no())}, 40)
	l = append(l, row(cell(97, falling...), cell(97, falling...), cell(10, falling...)))
	r := rule(19)
	for range 200 {
		d := r.document(20)
		for i := range d {
			if r.upTo(3) == 0 {
				d[i] = r.wrong(d[i])
			}
		}
		l = append(l, d)
	}
	return l
}

// Checks. Each test ends at its first fault: the rows are long, and what is wrong with one is wrong with many.

func checkMay(t *testing.T, s *schema.Schema, d []api.Cell, want api.Errno) {
	t.Helper()
	if e := May(s, d); e != want {
		t.Fatalf("May of %+v: %d; want %d", d, e, want)
	}
}

func checkCells(t *testing.T, what string, d, want []api.Cell) {
	t.Helper()
	if !alike(d, want) {
		t.Fatalf("%s: %+v; want %+v", what, d, want)
	}
}

func checkOps(t *testing.T, what string, x, want []api.Op) {
	t.Helper()
	if !alikeOps(x, want) {
		t.Fatalf("%s: %+v; want %+v", what, x, want)
	}
}

func checkRunes(t *testing.T, what string, l, want []int32) {
	t.Helper()
	if !slices.Equal(l, want) {
		t.Fatalf("%s: %d; want %d", what, l, want)
	}
}

func checkSame(t *testing.T, a, b []api.Cell, want bool) {
	t.Helper()
	if Same(a, b) != want || Same(b, a) != want {
		t.Fatalf("Same of %+v and %+v: %v, %v; want %v", a, b, Same(a, b), Same(b, a), want)
	}
}

// TestRowsOfTheTests holds the model, and what the tests are made of, against what they say of themselves.
func TestRowsOfTheTests(t *testing.T) {
	s := made(t, keys())
	for _, set := range inlineSets() {
		if attrs.May(s, set) != api.OK || has(keys(), set, true) {
			t.Errorf("%+v is no inline set", set)
		}
	}
	for _, set := range blockSets() {
		if attrs.May(s, set) != api.OK || has(keys(), set, false) {
			t.Errorf("%+v is no block set", set)
		}
	}
	for _, set := range mixedSets() {
		if attrs.May(s, set) != api.OK || !has(keys(), set, true) || !has(keys(), set, false) {
			t.Errorf("%+v is not mixed", set)
		}
	}
	for _, set := range malformedSets() {
		if attrs.May(s, set) != api.ErrMalformed || !setMalformed(set) {
			t.Errorf("%+v is well-formed", set)
		}
	}
	for _, set := range wrongSets() {
		if attrs.May(s, set) != api.ErrKey || setMalformed(set) || !setWrong(keys(), set) {
			t.Errorf("%+v has no wrong key", set)
		}
	}
	for i, a := range unlikeSets() {
		for j, b := range unlikeSets() {
			if alikeSets(a, b) != (i == j) || setMalformed(a) {
				t.Errorf("sets %d and %d", i, j)
			}
		}
	}
	for _, d := range documents() {
		if mayOf(keys(), d) != api.OK || !alike(onBlank(deltaOf(d)), d) || ops.May(s, deltaOf(d)) != api.OK || !ops.InPlace(s, deltaOf(d)) {
			t.Errorf("%+v is no document", d)
		}
	}
	told := [8]int{}
	for _, d := range strange() {
		told[mayOf(keys(), d)]++
	}
	if told[3] < 50 || told[4] < 20 || told[6] < 2 || told[7] < 2 {
		t.Errorf("strange cells of each kind: %d", told)
	}
	if n := len(rowsOf(someCells(), 2)); n != 1+8+64 {
		t.Errorf("%d rows", n)
	}
}
