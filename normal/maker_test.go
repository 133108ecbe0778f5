package normal

import (
	"math"
	"slices"
	"testing"

	"rubric/api"
	"rubric/ops"
)

var (
	_ func() *Maker                     = New
	_ func(*Maker, int, []api.Change)   = (*Maker).Retain
	_ func(*Maker, []int32, []api.Attr) = (*Maker).Insert
	_ func(*Maker, int)                 = (*Maker).Delete
	_ func(*Maker) []api.Op             = (*Maker).Ops
)

func tell(m *Maker, x ...api.Op) {
	for _, o := range x {
		switch o.Kind {
		case 1:
			m.Retain(o.N, o.Patch)
		case 2:
			m.Insert(o.Runes, o.Set)
		case 3:
			m.Delete(o.N)
		}
	}
}

// makers are a new one and a zero one.
func makers() []*Maker {
	return []*Maker{New(), {}, new(Maker)}
}

// checkTold tells a maker the ops one by one, and asks it behind each one.
func checkTold(t *testing.T, m *Maker, x []api.Op) {
	t.Helper()
	checkOps(t, "Ops of a maker that was told none", m.Ops(), nil)
	for i, o := range x {
		tell(m, o)
		want := formOf(x[:i+1])
		checkOps(t, "Ops", m.Ops(), want)
		checkForm(t, x[:i+1], want)
	}
	checkOps(t, "Ops, asked again", m.Ops(), formOf(x))
}

func TestMakerInWords(t *testing.T) {
	p := []api.Change{gone(1)}
	for _, m := range makers() {
		m.Delete(2)
		checkOps(t, "delete 2", m.Ops(), delta(remove(2)))
		m.Insert([]int32{97}, nil)
		checkOps(t, "insert a", m.Ops(), delta(insert("a"), remove(2)))
		m.Insert([]int32{98}, nil)
		checkOps(t, "insert b", m.Ops(), delta(insert("ab"), remove(2)))
		m.Insert([]int32{99}, []api.Attr{bold()})
		checkOps(t, "insert c", m.Ops(), delta(insert("ab"), insert("c", bold()), remove(2)))
		m.Delete(1)
		checkOps(t, "delete 1", m.Ops(), delta(insert("ab"), insert("c", bold()), remove(3)))
		m.Retain(2, nil)
		checkOps(t, "retain 2", m.Ops(), delta(insert("ab"), insert("c", bold()), remove(3)))
		m.Retain(3, nil)
		checkOps(t, "retain 3", m.Ops(), delta(insert("ab"), insert("c", bold()), remove(3)))
		m.Retain(1, p)
		checkOps(t, "retain 1", m.Ops(), delta(insert("ab"), insert("c", bold()), remove(3), retain(5), retain(1, p...)))
		m.Retain(1, p)
		m.Retain(4, nil)
		m.Delete(1)
		checkOps(t, "delete 1", m.Ops(), delta(insert("ab"), insert("c", bold()), remove(3), retain(5), retain(2, p...), retain(4), remove(1)))
	}
}

func TestMakerOfAllShortDeltas(t *testing.T) {
	for _, x := range rowsOf(someOps(), 3) {
		for _, m := range makers() {
			checkTold(t, m, x)
		}
	}
	for _, x := range rowsOf(delta(retain(1), retain(1, gone(1)), insert("a"), insert("b", bold()), remove(1)), 5) {
		checkTold(t, New(), x)
	}
}

// TestMakerToldNothing: with a length below 1, and no runes, nothing happens, whatever comes ahead of that, and behind it.
func TestMakerToldNothing(t *testing.T) {
	nothing := []func(m *Maker){
		func(m *Maker) { m.Insert(nil, nil) },
		func(m *Maker) { m.Insert([]int32{}, []api.Attr{bold()}) },
		func(m *Maker) { m.Insert(make([]int32, 3)[:0], nil) },
	}
	for _, n := range []int{0, -1, -2, -1 << 29, -1 << 32, math.MinInt + 1, math.MinInt} {
		nothing = append(nothing,
			func(m *Maker) { m.Retain(n, nil) },
			func(m *Maker) { m.Retain(n, []api.Change{gone(1)}) },
			func(m *Maker) { m.Retain(n, []api.Change{set(2, num(3))}) },
			func(m *Maker) { m.Delete(n) },
		)
	}
	for _, x := range rowsOf(delta(retain(2), retain(1, gone(1)), insert("a"), insert("b", bold()), remove(2)), 3) {
		for _, happens := range nothing {
			m := New()
			happens(m)
			checkOps(t, "Ops, behind nothing", m.Ops(), nil)
			for i, o := range x {
				tell(m, o)
				happens(m)
				happens(m)
				checkOps(t, "Ops, with nothing between", m.Ops(), formOf(x[:i+1]))
			}
		}
	}
	m := New()
	for _, happens := range nothing {
		happens(m)
	}
	checkOps(t, "Ops, behind nothing alone", m.Ops(), nil)
	checkTold(t, m, someOps())
}

func TestMakerLengths(t *testing.T) {
	p := []api.Change{gone(1)}
	for _, n := range []int{1, 2, 255, 256, 1 << 16, 1<<29 - 1, 1 << 29, 1<<29 + 1, 1 << 31, 1 << 32, 1 << 62, math.MaxInt - 1, math.MaxInt} {
		m := New()
		m.Retain(n, p)
		checkOps(t, "a retain", m.Ops(), delta(retain(n, p...)))
		m.Delete(n)
		checkOps(t, "a delete", m.Ops(), delta(retain(n, p...), remove(n)))
		m.Retain(n, nil)
		checkOps(t, "a retain without a patch", m.Ops(), delta(retain(n, p...), remove(n)))
		m.Insert([]int32{97}, nil)
		checkOps(t, "an insert", m.Ops(), delta(retain(n, p...), remove(n), retain(n), insert("a")))
	}
	m := New()
	for _, n := range []int{1 << 29, 1 << 29, 1 << 62, math.MaxInt - 1<<62 - 1<<30} {
		m.Retain(n, p)
	}
	checkOps(t, "retains of the greatest int", m.Ops(), delta(retain(math.MaxInt, p...)))
	for _, n := range []int{1, 1 << 29, math.MaxInt} {
		m.Retain(n, p)
		checkOps(t, "retains of more", m.Ops(), delta(retain(math.MaxInt, p...)))
	}
	m.Delete(math.MaxInt)
	m.Delete(1)
	m.Insert([]int32{97}, nil)
	m.Delete(math.MaxInt)
	checkOps(t, "deletes of more", m.Ops(), delta(retain(math.MaxInt, p...), insert("a"), remove(math.MaxInt)))
}

func TestNoMaker(t *testing.T) {
	var m *Maker
	tell(m, someOps()...)
	m.Retain(-1, nil)
	m.Insert(nil, nil)
	m.Delete(math.MinInt)
	checkOps(t, "Ops of a maker that is not there", m.Ops(), nil)
	if m != nil {
		t.Error("a maker that is not there is there")
	}
}

// TestMakerGoesOn writes over all that a maker was handed, and over all that it told, with all that stands behind these in their memory.
func TestMakerGoesOn(t *testing.T) {
	for _, d := range deltas() {
		m := New()
		var told [][]api.Op
		for i, o := range d {
			x := roomy(delta(o))
			all := whole(x)
			tell(m, x...)
			checkOps(t, "what was handed in", whole(x), all)
			scrawl(m.Ops())
			checkOps(t, "what was handed in, behind writing over Ops", whole(x), all)
			scrawl(x)
			told = append(told, m.Ops())
			checkOps(t, "Ops, behind writing over all", told[i], formOf(d[:i+1]))
		}
		for i, x := range told {
			checkOps(t, "what Ops told, behind what came later", x, formOf(d[:i+1]))
			scrawl(x)
		}
		checkOps(t, "Ops, behind writing over what was told", m.Ops(), formOf(d))
	}
}

// TestMakerToldItsOps: what a maker told may be told to it again.
func TestMakerToldItsOps(t *testing.T) {
	for _, d := range deltas() {
		m := New()
		tell(m, d...)
		form := m.Ops()
		tell(m, form...)
		checkOps(t, "Ops, told again", m.Ops(), formOf(slices.Concat(d, form)))
		checkOps(t, "what was told again", form, formOf(d))
	}
}

// TestListsOfAMaker share no memory.
func TestListsOfAMaker(t *testing.T) {
	runes, on, by := []int32{97, 98, 99, 100}, []api.Attr{attr(1, num(1)), attr(2, num(2))}, []api.Change{gone(1), gone(2)}
	m := New()
	for range 3 {
		m.Retain(1, by)
		m.Insert(runes[:2], on)
		m.Insert(runes[2:], on)
		m.Insert(runes, on[:1])
		m.Delete(1)
		m.Retain(1, by[:1])
	}
	want := m.Ops()
	if len(want) != 15 {
		t.Fatalf("%d ops: %+v", len(want), want)
	}
	for i := range want {
		x := m.Ops()
		scrawlLists(x[i])
		checkOps(t, "the ops ahead", x[:i], want[:i])
		checkOps(t, "the ops behind", x[i+1:], want[i+1:])
		checkOps(t, "what was told ahead", want, m.Ops())
	}
}

// TestMakersSideBySide: what one is told is nothing to another one.
func TestMakersSideBySide(t *testing.T) {
	for _, x := range deltas() {
		for _, y := range deltas()[:12] {
			m, o := New(), New()
			for i := range max(len(x), len(y)) {
				tell(m, x[min(i, len(x)):min(i+1, len(x))]...)
				tell(o, y[min(i, len(y)):min(i+1, len(y))]...)
			}
			checkOps(t, "Ops of one", m.Ops(), formOf(x))
			checkOps(t, "Ops of the other one", o.Ops(), formOf(y))
		}
	}
}

// TestMakerToldWhatMayNotBe: all calls end, and none panics.
func TestMakerToldWhatMayNotBe(t *testing.T) {
	l := append(wrongOps(), retain(1), insert("a"), remove(1))
	m := New()
	for _, o := range l {
		for _, p := range l {
			n := New()
			tell(n, o, p, o)
			checkOps(t, "Ops, asked again", n.Ops(), n.Ops())
			tell(m, o, p)
		}
	}
	checkOps(t, "Ops, asked again", m.Ops(), ops.Copy(m.Ops()))
}

// TestLongRowsOfTelling tells makers by a rule, ops as they come, and nothing now and then.
func TestLongRowsOfTelling(t *testing.T) {
	r := rule(62)
	for range 2000 {
		m := makers()[r.upTo(3)]
		x := r.delta(1 + r.upTo(40))
		for i, o := range x {
			if r.upTo(4) == 0 {
				tell(m, []api.Op{retain(0), retain(-1, gone(1)), insert(""), insert("", bold()), remove(0), remove(math.MinInt)}[r.upTo(6)])
			}
			for _, p := range r.pieces(delta(o)) {
				tell(m, p)
			}
			if r.upTo(3) == 0 {
				checkOps(t, "Ops", m.Ops(), formOf(x[:i+1]))
			}
		}
		checkOps(t, "Ops", m.Ops(), formOf(x))
	}
}

// TestMakerOfManyOps is told many, at long gaps too.
func TestMakerOfManyOps(t *testing.T) {
	r := rule(63)
	for range 20 {
		x := r.delta(3000)
		m := New()
		for _, p := range r.swapped(r.pieces(x)) {
			tell(m, p)
		}
		checkOps(t, "Ops", m.Ops(), formOf(x))
	}
	m := New()
	var runes []int32
	for i := range 200000 {
		m.Delete(1)
		m.Insert([]int32{int32(i)}, []api.Attr{bold()})
		runes = append(runes, int32(i))
	}
	checkOps(t, "Ops of a long gap", m.Ops(), delta(api.Op{Kind: 2, Runes: runes, Set: []api.Attr{bold()}}, remove(200000)))
}
