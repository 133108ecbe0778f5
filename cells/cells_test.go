package cells

import (
	"math"
	"slices"
	"testing"

	"rubric/api"
)

var (
	_ func() []api.Cell                    = Blank
	_ func([]int32, []api.Attr) []api.Cell = Of
	_ func([]api.Cell) []int32             = Text
	_ func(a, b []api.Cell) bool           = Same
	_ func([]api.Cell) []api.Cell          = Copy
)

// anyRunes may be, or not.
func anyRunes() []int32 {
	return []int32{97, 10, 0, 98, 97, 10, 10, 0x10ffff, 0x110000, -1, 0xd800, math.MinInt32, math.MaxInt32, 97}
}

// anySets may be, or not.
func anySets() [][]api.Attr {
	return slices.Concat(unlikeSets(), inlineSets(), blockSets(), mixedSets(), malformedSets(), wrongSets())
}

func TestBlank(t *testing.T) {
	for range 3 {
		d := Blank()
		checkCells(t, "Blank", d, row(api.Cell{R: 10}))
		checkMay(t, nil, d, api.OK)
		checkOps(t, "Delta of the blank", Delta(d), nil)
		d[0] = cell(97, bold())
		d = append(d, cell(98))
		checkCells(t, "Blank, behind writing over one", Blank(), row(api.Cell{R: 10}))
	}
	a, b := Blank(), Blank()
	a[0].R, a[0].Set = 98, append(a[0].Set, bold())
	checkCells(t, "another one, behind writing over one", b, row(api.Cell{R: 10}))
}

func TestOf(t *testing.T) {
	for _, set := range anySets() {
		for _, l := range [][]int32{nil, {}, {97}, {10}, {97, 97}, {10, 10, 97}, anyRunes()} {
			var want []api.Cell
			for _, r := range l {
				want = append(want, api.Cell{R: r, Set: set})
			}
			d := Of(l, set)
			checkCells(t, "Of", d, want)
			checkRunes(t, "Text of Of", Text(d), l)
			checkCells(t, "Of, no list or an empty one", Of(l, nil), Of(l, []api.Attr{}))
		}
	}
	checkCells(t, "Of in words", Of([]int32{97, 10}, []api.Attr{bold(), attr(2, num(3))}), row(cell(97, bold(), attr(2, num(3))), cell(10, bold(), attr(2, num(3)))))
	checkCells(t, "Of no runes", Of(nil, []api.Attr{bold()}), nil)
	checkCells(t, "Of a newline", Of([]int32{10}, nil), Blank())
}

func TestText(t *testing.T) {
	checkRunes(t, "Text of no cells", Text(nil), nil)
	checkRunes(t, "Text of an empty list", Text([]api.Cell{}), nil)
	checkRunes(t, "Text of the blank", Text(Blank()), []int32{10})
	checkRunes(t, "Text with sets and without", Text(row(cell(97, bold()), cell(98), cell(10, attr(12, num(1))), cell(10))), []int32{97, 98, 10, 10})
	for _, d := range slices.Concat(documents(), strange(), rowsOf(someCells(), 3)) {
		checkRunes(t, "Text", Text(d), runesOf(d))
	}
}

func TestSameInWords(t *testing.T) {
	a, b := cell(97, bold()), cell(98, bold())
	cases := []struct {
		what string
		a, b []api.Cell
		want bool
	}{
		{"no list, and an empty one", nil, []api.Cell{}, true},
		{"no list twice", nil, nil, true},
		{"none, and one", nil, row(a), false},
		{"none, and one of zeros", nil, row(api.Cell{}), false},
		{"no set, and an empty one", row(cell(97)), row(api.Cell{R: 97, Set: []api.Attr{}}), true},
		{"equal cells", row(a, b), row(cell(97, bold()), cell(98, bold())), true},
		{"another rune", row(a), row(b), false},
		{"another rune behind", row(a, a), row(a, b), false},
		{"another rune ahead", row(b, a), row(a, a), false},
		{"another order", row(a, b), row(b, a), false},
		{"one more", row(a, b), row(a, b, b), false},
		{"a set, and none", row(a), row(cell(97)), false},
		{"sets at other cells", row(a, cell(98)), row(cell(97), b), false},
		{"another order of attributes", row(cell(97, bold(), attr(2, num(1)))), row(cell(97, attr(2, num(1)), bold())), false},
		{"-0 and 0", row(cell(97, attr(3, float(0)))), row(cell(97, attr(3, float(math.Copysign(0, -1))))), false},
		{"what is no number", row(cell(97, attr(3, float(math.NaN())))), row(cell(97, attr(3, float(math.NaN())))), true},
	}
	for _, c := range cases {
		t.Run(c.what, func(t *testing.T) { checkSame(t, c.a, c.b, c.want) })
	}
}

// TestSameOfSets holds each set against each other one, a field alone apart from it or more, at each place of few.
func TestSameOfSets(t *testing.T) {
	l, m := anySets(), anySets()
	for _, a := range l {
		for _, b := range m {
			for at := range 3 {
				d, e := plain("ab\n"), plain("ab\n")
				d[at].Set, e[at].Set = a, b
				checkSame(t, d, e, alikeSets(a, b))
			}
		}
	}
}

func TestSameOfAllShortRows(t *testing.T) {
	l, m := rowsOf(someCells(), 3), rowsOf(someCells(), 3)
	for i, a := range l {
		for j, b := range m {
			if Same(a, b) != (i == j) {
				t.Fatalf("Same of %+v and %+v: %v", a, b, Same(a, b))
			}
		}
	}
}

// TestSameOfOneOfMany has long rows that differ in one cell alone, at each place, or in their length.
func TestSameOfOneOfMany(t *testing.T) {
	all := slices.Repeat(row(cell(97), cell(98, bold()), cell(10, attr(12, num(1))), cell(10)), 80)
	checkSame(t, all, Copy(all), true)
	for i, c := range all {
		for _, other := range row(cell(c.R+1, c.Set...), cell(-c.R, c.Set...), cell(c.R, append(slices.Clone(c.Set), attr(20, yes()))...)) {
			d := slices.Clone(all)
			d[i] = other
			checkSame(t, all, d, false)
		}
		if len(c.Set) > 0 {
			d := slices.Clone(all)
			d[i].Set = nil
			checkSame(t, all, d, false)
		}
		checkSame(t, all, all[:i], false)
		checkSame(t, all, all[i:], i == 0)
		checkSame(t, all[:i], Copy(all[:i]), true)
	}
}

func TestCopy(t *testing.T) {
	checkCells(t, "Copy of no cells", Copy(nil), nil)
	checkCells(t, "Copy of an empty list", Copy([]api.Cell{}), nil)
	checkCells(t, "Copy of the blank", Copy(Blank()), Blank())
	for _, d := range slices.Concat(documents(), strange(), rowsOf(someCells(), 3)) {
		c := Copy(d)
		checkCells(t, "Copy", c, d)
		checkSame(t, c, d, true)
	}
	for _, set := range anySets() {
		checkCells(t, "Copy of a set", Copy(row(cell(97, set...), cell(10, set...))), row(cell(97, set...), cell(10, set...)))
	}
}

// TestLongRowsOfCells makes rows by a rule, puts them together by Of, cell by cell, and holds all that is told of them against the model.
func TestLongRowsOfCells(t *testing.T) {
	r := rule(21)
	s := made(t, keys())
	count := [2]int{}
	for range 5000 {
		d := r.document(60)
		var e []api.Cell
		for _, c := range d {
			e = append(e, Of([]int32{c.R}, c.Set)...)
		}
		checkCells(t, "Of, cell by cell", e, d)
		checkRunes(t, "Text", Text(d), runesOf(d))
		checkSame(t, d, Copy(e), true)
		i := r.upTo(len(d))
		e[i] = r.cell(e[:i])
		checkSame(t, d, e, alike(d, e))
		checkMay(t, s, e, mayOf(keys(), e))
		if alike(d, e) {
			count[1]++
		} else {
			count[0]++
		}
	}
	if count[0] < 1000 || count[1] < 200 {
		t.Errorf("the same or not so often: %d", count)
	}
}
