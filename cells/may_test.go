package cells

import (
	"math"
	"slices"
	"testing"

	"rubric/api"
	"rubric/schema"
)

var _ func(*schema.Schema, []api.Cell) api.Errno = May

// places are the first one, one in the middle, and the last one of a document of five cells, and that of one alone.
func places() []struct{ at, n int } {
	return []struct{ at, n int }{{0, 5}, {2, 5}, {4, 5}, {0, 1}}
}

// among is a document of n cells, in which that cell is the one at that place.
func among(at, n int, c api.Cell) []api.Cell {
	d := row(cell(97), cell(98, bold()), cell(10, attr(12, num(1))), cell(99), cell(10))[5-n:]
	d[at] = c
	return d
}

// checkAmong holds May of a cell at each place against the model.
func checkAmong(t *testing.T, s *schema.Schema, keys []api.Key, c api.Cell) {
	t.Helper()
	for _, p := range places() {
		d := among(p.at, p.n, c)
		checkMay(t, s, d, mayOf(keys, d))
	}
}

func TestMayInWords(t *testing.T) {
	s := made(t, keys())
	cases := []struct {
		what string
		d    []api.Cell
		want api.Errno
	}{
		{"no list", nil, api.ErrMalformed},
		{"an empty list", []api.Cell{}, api.ErrMalformed},
		{"an empty list with a newline behind it", plain("\n")[:0], api.ErrMalformed},
		{"the blank", plain("\n"), api.OK},
		{"the blank with an empty set", row(cell(10, []api.Attr{}...)), api.OK},
		{"one newline with a block key", row(cell(10, attr(12, num(1)))), api.OK},
		{"one newline with an inline key", row(cell(10, bold())), api.ErrScope},
		{"one newline with both", row(cell(10, bold(), attr(12, num(1)))), api.ErrScope},
		{"one cell that is no newline", plain("a"), api.ErrFinal},
		{"one cell that is no newline, with an inline key", row(cell(97, bold())), api.ErrFinal},
		{"one cell that is no newline, with a block key", row(cell(97, attr(11, yes()))), api.ErrFinal},
		{"cells without newlines", plain("abc"), api.ErrFinal},
		{"a newline that is not the last one", plain("a\nb"), api.ErrFinal},
		{"a carriage return at the end", plain("a\r"), api.ErrFinal},
		{"a newline of another kind at the end", plain("a\u2028"), api.ErrFinal},
		{"newlines alone", plain("\n\n\n"), api.OK},
		{"cells and newlines", plain("a\nb\nc\n"), api.OK},
		{"an inline key", row(cell(97, bold()), cell(10)), api.OK},
		{"a block key of another cell", row(cell(97, attr(12, num(1))), cell(10)), api.ErrScope},
		{"both of another cell", row(cell(97, bold(), attr(12, num(1))), cell(10)), api.ErrScope},
		{"an inline key of a newline in the middle", row(cell(97), cell(10, bold()), cell(10)), api.ErrScope},
		{"a block key of a newline in the middle", row(cell(97), cell(10, attr(12, num(1))), cell(10)), api.OK},
		{"the last inline key of a newline", row(cell(97), cell(10, attr(12, num(1)), attr(1000, num(1)))), api.ErrScope},
		{"no rune", row(cell(-1), cell(10)), api.ErrMalformed},
		{"keys that fall", row(cell(97, attr(2, num(1)), bold()), cell(10)), api.ErrMalformed},
		{"a key that is none", row(cell(97, attr(6, num(1))), cell(10)), api.ErrKey},
		{"a value of another kind", row(cell(97, attr(1, num(1))), cell(10)), api.ErrKey},
	}
	for _, c := range cases {
		t.Run(c.what, func(t *testing.T) {
			checkMay(t, s, c.d, c.want)
			if e := mayOf(keys(), c.d); e != c.want {
				t.Errorf("the model tells %d; want %d", e, c.want)
			}
		})
	}
}

func TestMayOfDocuments(t *testing.T) {
	s := made(t, keys())
	for _, d := range documents() {
		checkMay(t, s, d, api.OK)
		for i := range d {
			want := api.OK
			if d[i].R != 10 {
				want = api.ErrFinal
			}
			checkMay(t, s, d[:i+1], want)
			checkMay(t, s, d[i:], api.OK)
		}
	}
}

// TestMayOfRunes asks of each rune about those that may be, at each place.
func TestMayOfRunes(t *testing.T) {
	s := made(t, keys())
	l := []int32{math.MinInt32, math.MinInt32 + 1, -1 << 30, -0x110000, -0x10ffff, 1 << 24, 1 << 30, 0x7fffd7ff, 0x7fffffff}
	for r := int32(-0x200); r < 0x110200; r++ {
		l = append(l, r)
	}
	for _, r := range l {
		checkAmong(t, s, keys(), cell(r))
	}
	count := 0
	for r := int32(-0x200); r < 0x110200; r++ {
		if May(nil, row(cell(r), cell(10))) == api.OK {
			count++
		}
	}
	if count != 0x110000-0x800 {
		t.Errorf("%d runes may be", count)
	}
}

func TestMayOfSets(t *testing.T) {
	s := made(t, keys())
	for _, sets := range [][][]api.Attr{inlineSets(), blockSets(), mixedSets(), malformedSets(), wrongSets(), unlikeSets()} {
		for _, set := range sets {
			for _, r := range []int32{97, 10, 0, 9, 11, 13, 0x85, 0x10ffff, -1, 0xd800} {
				checkAmong(t, s, keys(), cell(r, set...))
			}
		}
	}
	for _, set := range malformedSets() {
		for _, p := range places() {
			checkMay(t, s, among(p.at, p.n, cell(97, set...)), api.ErrMalformed)
			checkMay(t, s, among(p.at, p.n, cell(10, set...)), api.ErrMalformed)
			checkMay(t, nil, among(p.at, p.n, cell(10, set...)), api.ErrMalformed)
		}
	}
	for _, set := range wrongSets() {
		for _, p := range places() {
			checkMay(t, s, among(p.at, p.n, cell(97, set...)), api.ErrKey)
			checkMay(t, s, among(p.at, p.n, cell(10, set...)), api.ErrKey)
		}
	}
}

// TestMayOfFullSets has sets of as many attributes as may be, and of one more, and asks of each key where it may be.
func TestMayOfFullSets(t *testing.T) {
	for _, block := range []bool{false, true} {
		keys := full(block)
		s := made(t, keys)
		for n := range 67 {
			checkAmong(t, s, keys, cell(97, many(n)...))
			checkAmong(t, s, keys, cell(10, many(n)...))
		}
		for _, a := range many(64) {
			checkAmong(t, s, keys, cell(97, a))
			checkAmong(t, s, keys, cell(10, a))
		}
	}
	for i := range 64 {
		keys := full(false)
		keys[i].Block = true
		s := made(t, keys)
		checkMay(t, s, row(cell(97, many(64)...), cell(10)), api.ErrScope)
		checkMay(t, s, row(cell(97, slices.Delete(many(64), i, i+1)...), cell(10)), api.OK)
		keys = full(true)
		keys[i].Block = false
		s = made(t, keys)
		checkMay(t, s, row(cell(97), cell(10, many(64)...)), api.ErrScope)
		checkMay(t, s, row(cell(97), cell(10, slices.Delete(many(64), i, i+1)...)), api.OK)
	}
}

// TestMayOfSeveralErrors has cells with one fault and with several, in every order: which one is told hangs on no place.
func TestMayOfSeveralErrors(t *testing.T) {
	s := made(t, keys())
	falling := []api.Attr{attr(2, num(1)), bold()}
	of := row(
		cell(97), cell(10), cell(97, bold()), cell(10, attr(12, num(1))),
		cell(-1), cell(0xd800, attr(6, num(1))), cell(97, falling...), cell(10, attr(6, num(1)), attr(12, api.Value{})),
		cell(97, attr(6, num(1))), cell(10, attr(1, num(1)), attr(2, num(3))), cell(97, attr(1, num(1)), attr(12, num(1))),
		cell(97, attr(12, num(1))), cell(10, bold()),
	)
	told := [8]int{}
	for _, d := range rowsOf(of, 4) {
		want := mayOf(keys(), d)
		checkMay(t, s, d, want)
		told[want]++
	}
	if told[0] < 100 || told[3] < 100 || told[4] < 100 || told[6] < 100 || told[7] < 100 {
		t.Errorf("told so often: %d", told)
	}
	checkMay(t, s, row(cell(97, attr(12, num(1))), cell(97, attr(6, num(1))), cell(-1)), api.ErrMalformed)
	checkMay(t, s, row(cell(-1), cell(97, attr(6, num(1))), cell(97, attr(12, num(1)))), api.ErrMalformed)
	checkMay(t, s, row(cell(97, attr(12, num(1))), cell(97, attr(6, num(1))), cell(98)), api.ErrKey)
	checkMay(t, s, row(cell(97, attr(6, num(1))), cell(97, attr(12, num(1))), cell(98)), api.ErrKey)
	checkMay(t, s, row(cell(97, attr(12, num(1))), cell(10, bold()), cell(98)), api.ErrFinal)
	checkMay(t, s, row(cell(97, attr(12, num(1))), cell(10, bold()), cell(10)), api.ErrScope)
}

// TestMayOfOneOfMany has one fault alone at each place of a long document.
func TestMayOfOneOfMany(t *testing.T) {
	s := made(t, keys())
	all := append(slices.Repeat(row(cell(97), cell(98, bold()), cell(10, attr(12, num(1))), cell(10)), 80), plain("a\n")...)
	checkMay(t, s, all, api.OK)
	for i, c := range all {
		for _, wrong := range row(
			cell(-1, c.Set...), cell(0x110000, c.Set...), cell(c.R, attr(2, num(1)), bold()), cell(c.R, attr(2, api.Value{Kind: 2, F: 1})),
			cell(c.R, attr(6, num(1))), cell(c.R, attr(1, num(1))), cell(97, attr(12, num(1))), cell(10, bold()), cell(97), cell(10),
		) {
			d := slices.Clone(all)
			d[i] = wrong
			checkMay(t, s, d, mayOf(keys(), d))
		}
	}
}

// TestMayWithoutKeys: a schema that is not there, and a zero one, have no keys.
func TestMayWithoutKeys(t *testing.T) {
	for _, s := range []*schema.Schema{nil, {}, made(t, nil)} {
		checkMay(t, s, nil, api.ErrMalformed)
		checkMay(t, s, plain("\n"), api.OK)
		checkMay(t, s, plain("a\nb\n"), api.OK)
		checkMay(t, s, row(cell(97, []api.Attr{}...), cell(10, []api.Attr{}...)), api.OK)
		checkMay(t, s, row(cell(97, bold()), cell(10)), api.ErrKey)
		checkMay(t, s, row(cell(10, attr(12, num(1)))), api.ErrKey)
		checkMay(t, s, plain("a"), api.ErrFinal)
		checkMay(t, s, row(cell(97, attr(2, num(1)), bold()), cell(10)), api.ErrMalformed)
		for _, d := range slices.Concat(documents(), strange()) {
			checkMay(t, s, d, mayOf(nil, d))
		}
	}
}

func TestMayOfStrangeCells(t *testing.T) {
	s := made(t, keys())
	for _, d := range strange() {
		checkMay(t, s, d, mayOf(keys(), d))
	}
}

// TestMayOfLongRows asks by a rule of documents, and of these with few faults.
func TestMayOfLongRows(t *testing.T) {
	s := made(t, keys())
	r := rule(20)
	told := [8]int{}
	for range 20000 {
		d := r.document(40)
		checkMay(t, s, d, api.OK)
		for range 1 + r.upTo(3) {
			i := r.upTo(len(d))
			d[i] = r.wrong(d[i])
		}
		want := mayOf(keys(), d)
		checkMay(t, s, d, want)
		told[want]++
	}
	if told[0] < 300 || told[3] < 300 || told[4] < 300 || told[6] < 300 || told[7] < 300 {
		t.Errorf("told so often: %d", told)
	}
}
