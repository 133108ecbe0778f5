package cells

import (
	"slices"
	"testing"

	"rubric/api"
	"rubric/ops"
)

// What is handed in is not written to, and not kept; what is answered may be written over.

// roomySet has other attributes behind it in its memory.
func roomySet(set []api.Attr) []api.Attr {
	return slices.Concat(set, []api.Attr{attr(3, float(1)), bold()})[:len(set)]
}

// roomy are the same cells, each list of which has others behind it in its memory.
func roomy(d []api.Cell) []api.Cell {
	l := make([]api.Cell, 0, len(d)+2)
	for _, c := range d {
		l = append(l, cell(c.R, roomySet(c.Set)...))
	}
	return append(l, cell(120, bold()), cell(10))[:len(d)]
}

// entire are the cells with all that stands behind them, and behind their sets, in memory of its own.
func entire(d []api.Cell) []api.Cell {
	l := slices.Clone(d[:cap(d)])
	for i, c := range l {
		l[i].Set = slices.Clone(c.Set[:cap(c.Set)])
	}
	return l
}

func fill[T any](l []T, with T) {
	l = l[:cap(l)]
	for i := range l {
		l[i] = with
	}
}

func scrawl(d []api.Cell) {
	for _, c := range d[:cap(d)] {
		fill(c.Set, attr(77, num(77)))
	}
	fill(d, cell(77, attr(77, num(77))))
}

func scrawlOps(x []api.Op) {
	for _, o := range x[:cap(x)] {
		scrawlLists(o)
	}
	fill(x, api.Op{Kind: 77, N: 77, Runes: []int32{77}})
}

func scrawlLists(o api.Op) {
	fill(o.Runes, 77)
	fill(o.Set, attr(77, num(77)))
	fill(o.Patch, api.Change{Key: 77, Gone: true, Value: num(77)})
}

func TestCallsWriteToNothing(t *testing.T) {
	s := made(t, keys())
	for _, d := range slices.Concat(documents(), strange()) {
		d := roomy(d)
		want := entire(d)
		for i := range len(d) + 1 {
			for _, part := range [][]api.Cell{d[:i], d[i:]} {
				May(s, part)
				May(nil, part)
				Inserts(part)
				Delta(part)
				Text(part)
				Same(part, d)
				Same(d, part)
				Copy(part)
			}
		}
		checkCells(t, "what was handed in", entire(d), want)
	}
}

func TestOfWritesToNothing(t *testing.T) {
	for _, set := range anySets() {
		set := roomySet(set)
		all := slices.Clone(set[:cap(set)])
		l := slices.Concat(anyRunes(), []int32{120, 10})
		for i := range len(anyRunes()) + 1 {
			d := Of(l[:i], set)
			scrawl(d)
			checkRunes(t, "the runes, behind writing over what was told", l, slices.Concat(anyRunes(), []int32{120, 10}))
			if !alikeSets(set[:cap(set)], all) {
				t.Fatalf("the set, behind writing over what was told: %+v; want %+v", set[:cap(set)], all)
			}
		}
	}
}

func TestOfGoesItsOwnWay(t *testing.T) {
	for _, set := range anySets() {
		l := anyRunes()
		handed := roomySet(set)
		d := Of(l, handed)
		fill(l, 77)
		fill(handed, attr(77, num(77)))
		checkRunes(t, "Of, behind writing over the runes", runesOf(d), anyRunes())
		for _, c := range d {
			checkCells(t, "Of, behind writing over the set", row(cell(97, c.Set...)), row(cell(97, set...)))
		}
	}
}

func TestCopyGoesItsOwnWay(t *testing.T) {
	for _, d := range slices.Concat(documents(), strange()) {
		handed := roomy(d)
		all := entire(handed)
		scrawl(Copy(handed))
		checkCells(t, "what was handed in, behind writing over the copy", entire(handed), all)
		c := Copy(handed)
		scrawl(handed)
		checkCells(t, "the copy, behind writing over what was handed in", c, d)
	}
}

func TestTextGoesItsOwnWay(t *testing.T) {
	for _, d := range slices.Concat(documents(), strange()) {
		handed := roomy(d)
		all := entire(handed)
		fill(Text(handed), 77)
		checkCells(t, "what was handed in, behind writing over the text", entire(handed), all)
		l := Text(handed)
		scrawl(handed)
		checkRunes(t, "the text, behind writing over what was handed in", l, runesOf(d))
	}
}

func TestDeltasGoTheirOwnWay(t *testing.T) {
	for _, call := range []func([]api.Cell) []api.Op{Inserts, Delta} {
		for _, d := range slices.Concat(documents(), strange()) {
			handed := roomy(d)
			all := entire(handed)
			want := call(Copy(d))
			scrawlOps(call(handed))
			checkCells(t, "what was handed in, behind writing over the ops", entire(handed), all)
			checkOps(t, "the ops, asked again", call(handed), want)
			x := call(handed)
			scrawl(handed)
			checkOps(t, "the ops, behind writing over what was handed in", x, want)
		}
	}
}

// TestListsOfCells: those of one answer share no memory, also where those that were handed in do.
func TestListsOfCells(t *testing.T) {
	shared := []api.Attr{bold(), attr(2, num(3)), attr(3, float(1))}
	d := row(cell(97, shared...), cell(98, shared[:1]...), cell(97, shared...), cell(10, shared[1:]...), cell(10))
	of := Of([]int32{97, 98, 10, 97}, shared)
	for i := range d {
		c := Copy(d)
		fill(c[i].Set, attr(77, num(77)))
		checkCells(t, "the cells ahead in a copy", c[:i], d[:i])
		checkCells(t, "the cells behind in a copy", c[i+1:], d[i+1:])
	}
	for i := range of {
		c := Of([]int32{97, 98, 10, 97}, shared)
		fill(c[i].Set, attr(77, num(77)))
		checkCells(t, "the cells ahead", c[:i], of[:i])
		checkCells(t, "the cells behind", c[i+1:], of[i+1:])
	}
}

func TestListsOfDeltas(t *testing.T) {
	shared := []api.Attr{bold(), attr(2, num(3)), attr(12, num(1))}
	d := row(cell(97, shared...), cell(98, shared[:1]...), cell(97, shared...), cell(98, shared...), cell(10, shared[1:]...), cell(10), cell(10, shared...))
	for _, call := range []func([]api.Cell) []api.Op{Inserts, Delta} {
		for _, d := range append(documents(), d) {
			want := call(d)
			for i := range want {
				x := call(d)
				scrawlLists(x[i])
				checkOps(t, "the ops ahead", x[:i], want[:i])
				checkOps(t, "the ops behind", x[i+1:], want[i+1:])
				x = call(d)
				fill(x[i].Set, attr(77, num(77)))
				checkRunes(t, "an op's runes", x[i].Runes, want[i].Runes)
			}
		}
	}
}

// TestAskedAgain: nothing is kept from call to call, whatever is asked between.
func TestAskedAgain(t *testing.T) {
	s := made(t, keys())
	between := slices.Concat(documents()[:8], strange()[:20])
	for _, d := range documents() {
		x, y, c, l := Inserts(d), Delta(d), Copy(d), Text(d)
		were, was := ops.Copy(x), ops.Copy(y)
		for _, e := range between {
			checkMay(t, s, e, mayOf(keys(), e))
			checkOps(t, "Inserts", Inserts(e), insertsOf(e))
			scrawlOps(Delta(e))
			scrawl(Copy(e))
			scrawl(Blank())
			checkMay(t, s, d, api.OK)
			checkMay(t, nil, d, mayOf(nil, d))
		}
		checkOps(t, "inserts, behind other calls", x, were)
		checkOps(t, "a delta, behind other calls", y, was)
		checkCells(t, "a copy, behind other calls", c, d)
		checkRunes(t, "a text, behind other calls", l, runesOf(d))
	}
}
