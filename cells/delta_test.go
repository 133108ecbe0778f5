package cells

import (
	"math"
	"slices"
	"testing"

	"rubric/api"
	"rubric/normal"
	"rubric/ops"
)

var (
	_ func([]api.Cell) []api.Op = Inserts
	_ func([]api.Cell) []api.Op = Delta
)

// checkInserts holds Inserts against the model, and against what layer 16 makes of inserts of one rune each.
func checkInserts(t *testing.T, d []api.Cell) {
	t.Helper()
	x := Inserts(d)
	checkOps(t, "Inserts", x, insertsOf(d))
	checkOps(t, "Inserts, held against layer 16", x, normal.Of(oneByOne(d)))
	if !normal.Is(x) {
		t.Fatalf("Inserts of %+v: %+v, which is not normal", d, x)
	}
}

// checkDelta holds Delta of a row that ends with a newline against the model, and against what follows.
func checkDelta(t *testing.T, d []api.Cell) {
	t.Helper()
	x := Delta(d)
	last := len(d) - 1
	var p []api.Change
	for _, a := range d[last].Set {
		p = append(p, set(a.Key, a.Value))
	}
	checkOps(t, "Delta", x, deltaOf(d))
	checkOps(t, "Delta, held against layer 16", x, normal.Of(append(oneByOne(d[:last]), retain(p...))))
	checkCells(t, "what Delta makes of the blank", onBlank(x), d)
	if !normal.Is(x) {
		t.Fatalf("Delta of %+v: %+v, which is not normal", d, x)
	}
}

func TestInsertsExamples(t *testing.T) {
	checkOps(t, "a, b bold, newline", Inserts(row(cell(97), cell(98, bold()), cell(10))), delta(insert("a"), insert("b", bold()), insert("\n")))
	checkOps(t, "a, newline", Inserts(plain("a\n")), delta(insert("a\n")))
}

func TestInsertsInWords(t *testing.T) {
	cases := []struct {
		what string
		d    []api.Cell
		want []api.Op
	}{
		{"no list", nil, nil},
		{"an empty list", []api.Cell{}, nil},
		{"one cell", plain("a"), delta(insert("a"))},
		{"one cell with a set", row(cell(97, bold())), delta(insert("a", bold()))},
		{"one of zeros", row(api.Cell{}), delta(insert("\x00"))},
		{"the blank", Blank(), delta(insert("\n"))},
		{"newlines", plain("\n\n"), delta(insert("\n\n"))},
		{"cells with one set", row(cell(97, bold()), cell(98, bold())), delta(insert("ab", bold()))},
		{"cells with sets in turn", row(cell(97, bold()), cell(98), cell(99, bold()), cell(97, bold())), delta(insert("a", bold()), insert("b"), insert("ca", bold()))},
		{"no set, and an empty one", row(cell(97), api.Cell{R: 98, Set: []api.Attr{}}, cell(99)), delta(insert("abc"))},
		{"newlines among cells without sets", plain("a\nb\n\nc"), delta(insert("a\nb\n\nc"))},
		{"newlines with a set among cells", row(cell(97), cell(10, attr(12, num(1))), cell(10, attr(12, num(1))), cell(98)), delta(insert("a"), insert("\n\n", attr(12, num(1))), insert("b"))},
		{"newlines with two sets", row(cell(10, attr(12, num(1))), cell(10, attr(12, num(2)))), delta(insert("\n", attr(12, num(1))), insert("\n", attr(12, num(2))))},
		{"a set that is the beginning of another one", row(cell(97, bold()), cell(97, bold(), attr(2, num(3)))), delta(insert("a", bold()), insert("a", bold(), attr(2, num(3))))},
	}
	for _, c := range cases {
		t.Run(c.what, func(t *testing.T) {
			checkOps(t, "Inserts", Inserts(c.d), c.want)
			checkInserts(t, c.d)
		})
	}
}

func TestDeltaInWords(t *testing.T) {
	one, two := attr(12, num(1)), attr(12, num(2))
	cases := []struct {
		what string
		d    []api.Cell
		want []api.Op
	}{
		{"the blank", Blank(), nil},
		{"the blank with an empty set", row(api.Cell{R: 10, Set: []api.Attr{}}), nil},
		{"one newline with an attribute", row(cell(10, one)), delta(retain(set(12, num(1))))},
		{"one newline with many", row(cell(10, attr(11, yes()), one, attr(13, float(0)), attr(14, text("")))), delta(retain(set(11, yes()), set(12, num(1)), set(13, float(0)), set(14, text(""))))},
		{"two newlines", plain("\n\n"), delta(insert("\n"))},
		{"two newlines with one set", row(cell(10, one), cell(10, one)), delta(insert("\n", one), retain(set(12, num(1))))},
		{"two newlines with two sets", row(cell(10, one), cell(10, two)), delta(insert("\n", one), retain(set(12, num(2))))},
		{"the last newline without a set", row(cell(10, one), cell(10)), delta(insert("\n", one))},
		{"the last newline alone with a set", row(cell(10), cell(10, one)), delta(insert("\n"), retain(set(12, num(1))))},
		{"a rune", plain("a\n"), delta(insert("a"))},
		{"a rune and the last newline's set", row(cell(97), cell(10, one)), delta(insert("a"), retain(set(12, num(1))))},
		{"the last cell's set as that of the cell ahead", row(cell(97, bold()), cell(10, bold())), delta(insert("a", bold()), retain(set(1, yes())))},
		{"cells with sets, and without", row(cell(97), cell(98, bold()), cell(10)), delta(insert("a"), insert("b", bold()))},
		{"paragraphs", row(cell(97), cell(10, one), cell(98), cell(10, two)), delta(insert("a"), insert("\n", one), insert("b"), retain(set(12, num(2))))},
	}
	for _, c := range cases {
		t.Run(c.what, func(t *testing.T) {
			checkOps(t, "Delta", Delta(c.d), c.want)
			checkDelta(t, c.d)
		})
	}
}

// TestCellsSideBySide holds each set beside each other one, a field alone apart from it or more.
func TestCellsSideBySide(t *testing.T) {
	l, m := anySets(), anySets()
	for _, a := range l {
		for _, b := range m {
			d := row(cell(97, a...), cell(98, b...), cell(10, a...))
			checkInserts(t, d[:2])
			checkInserts(t, d)
			want := delta(insert("a", a...), insert("b", b...))
			if alikeSets(a, b) {
				want = delta(insert("ab", a...))
			}
			checkOps(t, "Inserts of two cells", Inserts(d[:2]), want)
			if !setMalformed(a) {
				checkDelta(t, d)
				checkDelta(t, row(d[1], d[2]))
			}
		}
	}
}

func TestDeltasOfLastSets(t *testing.T) {
	for n := range 65 {
		checkDelta(t, row(cell(10, many(n)...)))
		checkDelta(t, row(cell(97), cell(10, many(n)...)))
		checkDelta(t, row(cell(10, many(n)...), cell(10, many(n)...)))
	}
	for _, a := range slices.Concat(unlikeSets(), inlineSets(), blockSets(), mixedSets(), wrongSets()) {
		checkDelta(t, row(cell(10, a...)))
		checkDelta(t, row(cell(97, a...), cell(10, a...)))
	}
}

func TestDeltasOfAllShortRows(t *testing.T) {
	for _, d := range rowsOf(someCells(), 4) {
		checkInserts(t, d)
		checkDelta(t, append(d, cell(10)))
		checkDelta(t, append(d, cell(10, attr(12, num(1)))))
	}
}

// TestOneDeltaOfOneDocument: two documents have one delta just if they are one, and one text just if their runes are.
func TestOneDeltaOfOneDocument(t *testing.T) {
	s := made(t, keys())
	var l [][]api.Cell
	for _, d := range rowsOf(someCells(), 2) {
		for _, set := range blockSets() {
			l = append(l, append(slices.Clone(d), cell(10, set...)))
		}
	}
	for _, set := range inlineSets() {
		l = append(l, row(cell(97, set...), cell(10)), row(cell(97, set...), cell(98, set...), cell(10)))
	}
	var deltas [][]api.Op
	for _, d := range l {
		checkMay(t, s, d, api.OK)
		deltas = append(deltas, Delta(d))
	}
	for i, d := range l {
		for j, e := range l {
			one := alike(d, e)
			if ops.Same(deltas[i], deltas[j]) != one || Same(d, e) != one {
				t.Fatalf("%+v and %+v have one delta: %v; want %v", d, e, !one, one)
			}
			if slices.Equal(Text(d), Text(e)) != slices.Equal(runesOf(d), runesOf(e)) {
				t.Fatalf("%+v and %+v: %d, %d", d, e, Text(d), Text(e))
			}
		}
	}
}

// TestDeltasOfDocuments fit the blank, and make the document of it.
func TestDeltasOfDocuments(t *testing.T) {
	s := made(t, keys())
	for _, d := range documents() {
		checkDelta(t, d)
		checkInserts(t, d)
		x := Delta(d)
		if e := ops.Fits(s, x, 1, len(d)); e != api.OK {
			t.Fatalf("Delta of %+v: %+v fits the blank: %d", d, x, e)
		}
		if ops.Makes(Inserts(d)) != len(d) || len(d) > 1 && ops.Fits(s, x, 1, len(d)-1) != api.ErrTooLong {
			t.Fatalf("%+v: of as many cells as %+v, %+v", d, Inserts(d), x)
		}
		for i := range d {
			checkInserts(t, d[:i])
			checkInserts(t, d[i:])
			checkDelta(t, d[i:])
		}
	}
}

// TestDeltaWithoutALastNewline: what is answered is free, but each call ends.
func TestDeltaWithoutALastNewline(t *testing.T) {
	checkOps(t, "Delta of no cells, asked again", Delta(nil), Delta([]api.Cell{}))
	for _, d := range [][]api.Cell{plain("a"), plain("ab"), row(cell(97, bold())), row(cell(97, bold()), cell(97, bold())), row(cell(-1, attr(6, num(1)))), plain("\na"), plain("\n")[:0]} {
		checkOps(t, "Delta, asked again", Delta(d), Delta(slices.Clone(d)))
	}
	for _, d := range documents() {
		for i := range d {
			checkOps(t, "Delta, asked again", Delta(d[:i]), Delta(Copy(d[:i])))
		}
	}
}

// TestWhatMayNotBe: of cells that may not be all calls end, and what is told of cells, whatever they are, is told.
func TestWhatMayNotBe(t *testing.T) {
	s := made(t, keys())
	for _, d := range strange() {
		May(s, d)
		May(nil, d)
		checkOps(t, "Inserts", Inserts(d), insertsOf(d))
		checkOps(t, "Delta, asked again", Delta(d), Delta(Copy(d)))
		checkCells(t, "Copy", Copy(d), d)
		checkRunes(t, "Text", Text(d), runesOf(d))
		checkSame(t, d, Copy(d), true)
		for _, c := range d {
			checkCells(t, "Of", Of(runesOf(d), c.Set), Of(Text(d), slices.Clone(c.Set)))
		}
	}
	checkOps(t, "Inserts of any runes", Inserts(Of(anyRunes(), nil)), delta(api.Op{Kind: 2, Runes: anyRunes()}))
	for _, r := range []int32{math.MinInt32, -1, 0xd800, 0xdfff, 0x110000, math.MaxInt32} {
		checkOps(t, "Inserts of a rune", Inserts(row(cell(r, bold()))), delta(api.Op{Kind: 2, Runes: []int32{r}, Set: []api.Attr{bold()}}))
	}
}

// TestLongRowsOfDeltas asks of documents that a rule makes, and of parts of them.
func TestLongRowsOfDeltas(t *testing.T) {
	r := rule(22)
	for range 5000 {
		d := r.document(60)
		checkDelta(t, d)
		i := r.upTo(len(d))
		checkInserts(t, d[i:])
		checkInserts(t, d[:i])
	}
	for range 20 {
		d := r.document(20000)
		checkDelta(t, d)
		checkInserts(t, d)
	}
}

func TestLongInserts(t *testing.T) {
	l := slices.Repeat([]int32{97, 10, 0x10ffff, 0}, 1<<16)
	set := []api.Attr{bold(), attr(2, num(3))}
	d := Of(l, set)
	checkOps(t, "Inserts of one set", Inserts(d), delta(api.Op{Kind: 2, Runes: l, Set: set}))
	var want []api.Op
	for i := range d {
		d[i].Set = set[:1+i%2]
		want = append(want, api.Op{Kind: 2, Runes: l[i : i+1], Set: set[:1+i%2]})
	}
	checkOps(t, "Inserts of sets in turn", Inserts(d), want)
	checkOps(t, "Delta of sets in turn", Delta(append(d, Blank()...)), want)
}
