package normal

import (
	"fmt"
	"math"
	"slices"
	"strings"
	"testing"

	"rubric/api"
	"rubric/ops"
	"rubric/schema"
	"rubric/value"
)

// The model: the chapter's words, said of plain lists.

type gap struct {
	inserts []api.Op
	deleted int
}

// gapsOf are the gaps ahead of each retain, and behind the last one, and the retains.
func gapsOf(x []api.Op) ([]gap, []api.Op) {
	gaps, retains := []gap{{}}, []api.Op(nil)
	for _, o := range x {
		g := &gaps[len(gaps)-1]
		switch o.Kind {
		case 1:
			gaps, retains = append(gaps, gap{}), append(retains, o)
		case 2:
			g.inserts = append(g.inserts, o)
		case 3:
			g.deleted += o.N
		}
	}
	return gaps, retains
}

// joined makes retains with one patch, and inserts with one set, that stand side by side one.
func joined(x []api.Op) []api.Op {
	var l []api.Op
	for _, o := range x {
		if n := len(l); n > 0 && l[n-1].Kind == o.Kind && alikeSets(l[n-1].Set, o.Set) && alikePatches(l[n-1].Patch, o.Patch) {
			l[n-1].N += o.N
			l[n-1].Runes = slices.Concat(l[n-1].Runes, o.Runes)
			continue
		}
		l = append(l, o)
	}
	return l
}

func formOf(x []api.Op) []api.Op {
	gaps, retains := gapsOf(x)
	var form []api.Op
	for i, g := range gaps {
		form = append(form, g.inserts...)
		if g.deleted > 0 {
			form = append(form, remove(g.deleted))
		}
		if i < len(retains) {
			form = append(form, retains[i])
		}
	}
	form = joined(form)
	for len(form) > 0 && idle(form[len(form)-1]) {
		form = form[:len(form)-1]
	}
	return form
}

func idle(o api.Op) bool {
	return o.Kind == 1 && len(o.Patch) == 0
}

func isNormal(x []api.Op) bool {
	for i, o := range x {
		if i == len(x)-1 {
			return !idle(o)
		}
		p := x[i+1]
		retains := o.Kind == 1 && p.Kind == 1 && alikePatches(o.Patch, p.Patch)
		inserts := o.Kind == 2 && p.Kind == 2 && alikeSets(o.Set, p.Set)
		if retains || inserts || o.Kind == 3 && (p.Kind == 3 || p.Kind == 2) {
			return false
		}
	}
	return true
}

// done is what x makes of n cells, cell by cell: which one it was, and its patch, or the rune and its set.
func done(x []api.Op, n int) []string {
	var l []string
	next := 0
	for _, o := range x {
		for i := range lengthOf(o) {
			switch o.Kind {
			case 1:
				l = append(l, fmt.Sprint(next, o.Patch))
			case 2:
				l = append(l, fmt.Sprint("new", o.Runes[i], o.Set))
			}
			if o.Kind != 2 {
				next++
			}
		}
	}
	for ; next < n; next++ {
		l = append(l, fmt.Sprint(next, []api.Change{}))
	}
	return l
}

func lengthOf(o api.Op) int {
	if o.Kind == 2 {
		return len(o.Runes)
	}
	return o.N
}

func alikeValues(a, b api.Value) bool {
	return a.Kind == b.Kind && a.N == b.N && a.F == b.F && a.S == b.S
}

func alikeSets(a, b []api.Attr) bool {
	return slices.EqualFunc(a, b, func(a, b api.Attr) bool { return a.Key == b.Key && alikeValues(a.Value, b.Value) })
}

func alikePatches(p, q []api.Change) bool {
	return slices.EqualFunc(p, q, func(c, d api.Change) bool {
		return c.Key == d.Key && c.Gone == d.Gone && alikeValues(c.Value, d.Value)
	})
}

func alikeOps(x, y []api.Op) bool {
	return slices.EqualFunc(x, y, func(o, p api.Op) bool {
		return o.Kind == p.Kind && o.N == p.N && slices.Equal(o.Runes, p.Runes) && alikeSets(o.Set, p.Set) && alikePatches(o.Patch, p.Patch)
	})
}

// The rows of the tests.

func num(n int64) api.Value { return value.Int(n) }

func text(s string) api.Value { return api.Value{Kind: api.ValText, S: s} }

func attr(key int, v api.Value) api.Attr { return api.Attr{Key: key, Value: v} }

func set(key int, v api.Value) api.Change { return api.Change{Key: key, Value: v} }

func gone(key int) api.Change { return api.Change{Key: key, Gone: true} }

func retain(n int, p ...api.Change) api.Op { return api.Op{Kind: 1, N: n, Patch: p} }

func insert(s string, set ...api.Attr) api.Op {
	var l []int32
	for _, r := range s {
		l = append(l, r)
	}
	return api.Op{Kind: 2, Runes: l, Set: set}
}

func remove(n int) api.Op { return api.Op{Kind: 3, N: n} }

func delta(x ...api.Op) []api.Op { return x }

func bold() api.Attr { return attr(1, value.Flag(true)) }

func keys() []api.Key {
	return []api.Key{{ID: 1, Kind: 1}, {ID: 2, Kind: 2}, {ID: 3, Kind: 3}, {ID: 4, Kind: 4}, {ID: 11, Block: true, Kind: 2}}
}

// unlikeSets are such as may be, of one schema or another, of which no two are the same; many differ in one field alone.
func unlikeSets() [][]api.Attr {
	yes, no := value.Flag(true), value.Flag(false)
	l := [][]api.Attr{nil}
	for _, v := range []api.Value{
		yes, no, num(0), num(1), num(2), num(-1), num(1 << 32), num(math.MinInt64), num(math.MaxInt64),
		value.Float(0), value.Float(math.Copysign(0, -1)), value.Float(1), value.Float(math.NaN()), value.Float(math.Inf(1)),
		text(""), text("a"), text("b"), text("aa"), text("ab"), text(strings.Repeat("a", 64)), text(strings.Repeat("a", 63) + "b"),
	} {
		l = append(l, []api.Attr{attr(1, v)})
	}
	return append(l,
		[]api.Attr{attr(2, yes)}, []api.Attr{attr(1000, yes)},
		[]api.Attr{attr(1, yes), attr(2, yes)}, []api.Attr{attr(1, yes), attr(3, yes)}, []api.Attr{attr(1, yes), attr(2, no)}, []api.Attr{attr(1, no), attr(2, yes)},
		[]api.Attr{attr(1, yes), attr(2, yes), attr(3, num(1))}, []api.Attr{attr(1, yes), attr(2, yes), attr(3, num(2))}, []api.Attr{attr(2, yes), attr(3, num(1))},
	)
}

// unlikePatches are the sets as patches, and these with a key Gone.
func unlikePatches() [][]api.Change {
	l := [][]api.Change{nil}
	for _, s := range unlikeSets()[1:] {
		p := []api.Change{}
		for _, a := range s {
			p = append(p, set(a.Key, a.Value))
		}
		l = append(l, p)
	}
	yes := value.Flag(true)
	return append(l,
		[]api.Change{gone(1)}, []api.Change{gone(2)}, []api.Change{gone(1000)}, []api.Change{gone(1), gone(2)},
		[]api.Change{gone(1), set(2, yes)}, []api.Change{set(1, yes), gone(2)}, []api.Change{set(1, yes), set(2, yes), gone(3)},
	)
}

// rowsOf are all rows of at most so many of the ops.
func rowsOf(of []api.Op, most int) [][]api.Op {
	l := [][]api.Op{nil}
	longest := l
	for range most {
		var longer [][]api.Op
		for _, x := range longest {
			for _, o := range of {
				longer = append(longer, append(slices.Clone(x), o))
			}
		}
		l = append(l, longer...)
		longest = longer
	}
	return l
}

func someOps() []api.Op {
	return delta(
		retain(1), retain(2), retain(1, gone(1)), retain(3, set(2, num(3))),
		insert("a"), insert("b\n"), insert("c", bold()), insert("\n", attr(11, num(1))),
		remove(1), remove(2),
	)
}

// cut is the op in two: so much, and the rest.
func cut(o api.Op, at int) (api.Op, api.Op) {
	o, p := ops.Copy(delta(o))[0], ops.Copy(delta(o))[0]
	if o.Kind == 2 {
		o.Runes, p.Runes = o.Runes[:at], p.Runes[at:]
	} else {
		o.N, p.N = at, o.N-at
	}
	return o, p
}

// cuts are the delta's ops in pieces, in all ways.
func cuts(x []api.Op) [][]api.Op {
	if len(x) == 0 {
		return [][]api.Op{nil}
	}
	var l [][]api.Op
	for _, y := range cuts(x[1:]) {
		l = append(l, append(delta(x[0]), y...))
	}
	for at := 1; at < lengthOf(x[0]); at++ {
		o, p := cut(x[0], at)
		for _, y := range cuts(append(delta(p), x[1:]...)) {
			l = append(l, append(delta(o), y...))
		}
	}
	return l
}

// rule makes rows that are long and alike each time.
type rule uint64

func (r *rule) upTo(n int) int {
	*r = *r*6364136223846793005 + 1442695040888963407
	return int(uint64(*r) >> 33 % uint64(n))
}

// op is one of few sets and patches, so that often two are the same.
func (r *rule) op() api.Op {
	switch r.upTo(3) {
	case 0:
		p := [][]api.Change{nil, {}, {gone(1)}, {set(1, value.Flag(true))}, {gone(1), set(2, num(3))}}
		return retain(1+r.upTo(5), p[r.upTo(len(p))]...)
	case 1:
		s := [][]api.Attr{nil, {}, {bold()}, {bold(), attr(2, num(3))}, {attr(3, value.Float(0.5)), attr(4, text("a"))}}
		o := insert("", s[r.upTo(len(s))]...)
		for range 1 + r.upTo(5) {
			o.Runes = append(o.Runes, []int32{97, 98, 10, 0, 0x10ffff}[r.upTo(5)])
		}
		return o
	}
	return remove(1 + r.upTo(5))
}

func (r *rule) delta(most int) []api.Op {
	var x []api.Op
	for range r.upTo(most + 1) {
		x = append(x, r.op())
	}
	return x
}

// pieces are the delta's ops, cut anywhere.
func (r *rule) pieces(x []api.Op) []api.Op {
	var l []api.Op
	for _, p := range x {
		for lengthOf(p) > 1 && r.upTo(3) > 0 {
			var o api.Op
			o, p = cut(p, 1+r.upTo(lengthOf(p)-1))
			l = append(l, o)
		}
		l = append(l, p)
	}
	return l
}

// swapped is the delta with inserts and deletes that stand side by side swapped now and then, so that each gap keeps what it has.
func (r *rule) swapped(x []api.Op) []api.Op {
	x = slices.Clone(x)
	for range 2 * len(x) {
		i := r.upTo(len(x))
		if i > 0 && x[i-1].Kind*x[i].Kind == 2*3 {
			x[i-1], x[i] = x[i], x[i-1]
		}
	}
	return x
}

// deltas are such as may be, normal and not.
func deltas() [][]api.Op {
	r := rule(7)
	l := [][]api.Op{
		nil,
		delta(retain(2, gone(1), set(2, num(3))), insert("ab\n", bold(), attr(4, text("a"))), remove(2)),
		delta(retain(2, gone(1)), retain(3, gone(1)), insert("a", bold()), remove(2), insert("b", bold()), insert("c"), retain(1)),
		delta(remove(1), insert("a", bold()), insert("b"), insert("c", bold()), retain(1, gone(1)), retain(2)),
		someOps(),
	}
	for range 40 {
		l = append(l, r.delta(12))
	}
	return l
}

// wrongOps may not be, each in its way.
func wrongOps() []api.Op {
	falling := []api.Attr{attr(2, num(1)), attr(1, num(1)), attr(1, num(1)), attr(math.MinInt, api.Value{Kind: 77})}
	changes := []api.Change{gone(2), {Key: 1, Gone: true, Value: num(1)}, gone(1), set(math.MaxInt, api.Value{})}
	l := delta(api.Op{}, api.Op{N: 1}, api.Op{Kind: 4, N: 1}, api.Op{Kind: 255, Runes: []int32{97}}, api.Op{Kind: 2}, api.Op{Kind: 2, N: 1})
	for _, n := range []int{math.MinInt, math.MinInt + 1, -1, 0, 1, 1<<29 + 1, 1 << 62, math.MaxInt - 1, math.MaxInt} {
		for kind := range uint8(5) {
			l = append(l,
				api.Op{Kind: kind, N: n},
				api.Op{Kind: kind, N: n, Patch: changes},
				api.Op{Kind: kind, N: n, Set: falling},
				api.Op{Kind: kind, N: n, Runes: []int32{97, -1, 0xd800}},
				api.Op{Kind: kind, N: n, Runes: []int32{math.MinInt32, math.MaxInt32}, Set: falling, Patch: changes},
			)
		}
	}
	return l
}

// roomy is the same delta, each list of which has others behind it in its memory.
func roomy(x []api.Op) []api.Op {
	l := make([]api.Op, 0, len(x)+2)
	for _, o := range x {
		o.Runes = slices.Concat(o.Runes, []int32{120, 10, 0xd800})[:len(o.Runes)]
		o.Set = slices.Concat(o.Set, []api.Attr{attr(3, value.Float(1)), bold()})[:len(o.Set)]
		o.Patch = slices.Concat(o.Patch, []api.Change{gone(3), set(1, value.Flag(true))})[:len(o.Patch)]
		l = append(l, o)
	}
	return append(l, retain(9), insert("behind"))[:len(x)]
}

// whole are the ops with all that stands behind them, and behind their lists, in memory of its own.
func whole(x []api.Op) []api.Op {
	var l []api.Op
	for _, o := range x[:cap(x)] {
		o.Runes = slices.Clone(o.Runes[:cap(o.Runes)])
		o.Set = slices.Clone(o.Set[:cap(o.Set)])
		o.Patch = slices.Clone(o.Patch[:cap(o.Patch)])
		l = append(l, o)
	}
	return l
}

func scrawl(x []api.Op) {
	x = x[:cap(x)]
	for i := range x {
		scrawlLists(x[i])
		x[i] = api.Op{Kind: 77, N: 77, Runes: []int32{77}}
	}
}

func scrawlLists(o api.Op) {
	runes, set, p := o.Runes[:cap(o.Runes)], o.Set[:cap(o.Set)], o.Patch[:cap(o.Patch)]
	for i := range runes {
		runes[i] = 77
	}
	for i := range set {
		set[i] = attr(77, num(77))
	}
	for i := range p {
		p[i] = api.Change{Key: 77, Gone: true, Value: num(77)}
	}
}

// Checks. Each test ends at its first fault: the rows are long, and what is wrong with one is wrong with many.

func made(t *testing.T) *schema.Schema {
	t.Helper()
	s, e := schema.New(keys())
	if e != api.OK {
		t.Fatalf("a schema: %d", e)
	}
	return s
}

func checkOps(t *testing.T, what string, x, want []api.Op) {
	t.Helper()
	if !alikeOps(x, want) {
		t.Fatalf("%s: %+v; want %+v", what, x, want)
	}
}

func checkForm(t *testing.T, x, want []api.Op) {
	t.Helper()
	if form := Of(x); !alikeOps(form, want) {
		t.Fatalf("Of %+v: %+v; want %+v", x, form, want)
	}
}

func checkIs(t *testing.T, x []api.Op, want bool) {
	t.Helper()
	if Is(x) != want {
		t.Fatalf("Is %+v: %v; want %v", x, Is(x), want)
	}
}

// check holds both calls against the model, and against what follows.
func check(t *testing.T, x []api.Op) {
	t.Helper()
	form := formOf(x)
	checkForm(t, x, form)
	checkForm(t, form, form)
	checkIs(t, form, true)
	checkIs(t, x, isNormal(x))
	checkIs(t, x, alikeOps(x, form))
}

// leftOut is how many cells are retained at the end with an empty patch.
func leftOut(x []api.Op) int {
	n := 0
	for i := len(x) - 1; i >= 0 && idle(x[i]); i-- {
		n += x[i].N
	}
	return n
}

// TestRowsOfTheTests holds the model, and what the tests are made of, against what they say of themselves.
func TestRowsOfTheTests(t *testing.T) {
	s := made(t)
	for _, o := range someOps() {
		if ops.May(s, delta(o)) != api.OK || !ops.InPlace(s, delta(o)) && len(o.Set) > 0 {
			t.Errorf("%+v may not be, or is out of place", o)
		}
	}
	for i, a := range unlikeSets() {
		for j, b := range unlikeSets() {
			if alikeSets(a, b) != (i == j) || ops.May(s, delta(insert("a", a...))) == api.ErrMalformed {
				t.Errorf("sets %d and %d", i, j)
			}
		}
	}
	for i, p := range unlikePatches() {
		for j, q := range unlikePatches() {
			if alikePatches(p, q) != (i == j) || ops.May(s, delta(retain(1, p...))) == api.ErrMalformed {
				t.Errorf("patches %d and %d", i, j)
			}
		}
	}
	if n := len(cuts(delta(retain(3), insert("ab"), remove(4)))); n != 4*2*8 {
		t.Errorf("%d ways of cutting", n)
	}
	if n := len(rowsOf(someOps(), 2)); n != 1+10+100 {
		t.Errorf("%d rows", n)
	}
	r := rule(1)
	for range 300 {
		x := r.delta(9)
		if ops.May(s, x) != api.OK || !slices.Equal(done(r.swapped(r.pieces(x)), 60), done(x, 60)) {
			t.Fatalf("%+v may not be, or is another one in pieces", x)
		}
	}
}
