package normal

import (
	"math"
	"slices"
	"testing"

	"rubric/api"
	"rubric/ops"
	"rubric/value"
)

var (
	_ func([]api.Op) []api.Op = Of
	_ func([]api.Op) bool     = Is
)

func TestExamples(t *testing.T) {
	checkForm(t, delta(remove(2), insert("a"), insert("b")), delta(insert("ab"), remove(2)))
	checkForm(t, delta(retain(2), retain(3), remove(1), retain(4)), delta(retain(5), remove(1)))
	checkIs(t, delta(remove(2), insert("a"), insert("b")), false)
	checkIs(t, delta(insert("ab"), remove(2)), true)
	checkIs(t, delta(retain(2), retain(3), remove(1), retain(4)), false)
	checkIs(t, delta(retain(5), remove(1)), true)
}

func TestNoDelta(t *testing.T) {
	for _, x := range [][]api.Op{nil, {}, make([]api.Op, 3)[:0], someOps()[:0]} {
		checkForm(t, x, nil)
		checkIs(t, x, true)
	}
}

// TestOneOp: one op alone is normal, but for a retain with an empty patch.
func TestOneOp(t *testing.T) {
	for _, n := range []int{1, 2, 255, 256, 1<<29 - 1, 1 << 29} {
		checkForm(t, delta(remove(n)), delta(remove(n)))
		checkIs(t, delta(remove(n)), true)
		for i, p := range unlikePatches() {
			x, want := delta(retain(n, p...)), delta(retain(n, p...))
			checkIs(t, x, i > 0)
			checkForm(t, x, want[:min(i, 1)])
		}
	}
	for _, s := range unlikeSets() {
		for _, l := range []string{"a", "\n", "ab", "a\nb\n", "\x00\U0010ffff"} {
			checkForm(t, delta(insert(l, s...)), delta(insert(l, s...)))
			checkIs(t, delta(insert(l, s...)), true)
		}
	}
}

func TestInWords(t *testing.T) {
	p, q := gone(1), set(2, num(3))
	cases := []struct {
		what    string
		x, form []api.Op
	}{
		{"retains at the end with empty patches", delta(insert("a"), retain(1), retain(2), retain(3)), delta(insert("a"))},
		{"retains at the end with empty patches behind one with a patch", delta(retain(4, p), retain(1), retain(2)), delta(retain(4, p))},
		{"a retain at the end with a patch behind empty ones", delta(retain(1), retain(2), retain(4, p)), delta(retain(3), retain(4, p))},
		{"retains at the end with empty patches behind a delete", delta(remove(1), retain(1), retain(2)), delta(remove(1))},
		{"retains with empty patches alone", delta(retain(1), retain(2), retain(3)), nil},
		{"retains with one patch", delta(retain(1, p), retain(2, p), retain(3, p)), delta(retain(6, p))},
		{"retains with patches in turn", delta(retain(1, p), retain(2, q), retain(3, p), retain(4, p)), delta(retain(1, p), retain(2, q), retain(7, p))},
		{"retains with a patch and without", delta(retain(1, p), retain(2), retain(3, p)), delta(retain(1, p), retain(2), retain(3, p))},
		{"retains with an insert between", delta(retain(1, p), insert("a"), retain(2, p)), delta(retain(1, p), insert("a"), retain(2, p))},
		{"retains with a delete between", delta(retain(1, p), remove(1), retain(2, p)), delta(retain(1, p), remove(1), retain(2, p))},
		{"retains without patches with an insert between", delta(retain(1), insert("a"), retain(2)), delta(retain(1), insert("a"))},
		{"retains without patches with a delete between, and an insert behind", delta(retain(1), remove(1), retain(2), insert("a")), delta(retain(1), remove(1), retain(2), insert("a"))},
		{"inserts with one set", delta(insert("a", bold()), insert("bc", bold()), insert("d", bold())), delta(insert("abcd", bold()))},
		{"inserts with sets in turn", delta(insert("a"), insert("b", bold()), insert("c"), insert("d")), delta(insert("a"), insert("b", bold()), insert("cd"))},
		{"inserts with a retain between", delta(insert("a"), retain(1, p), insert("b")), delta(insert("a"), retain(1, p), insert("b"))},
		{"inserts with a delete between", delta(insert("a"), remove(2), insert("b")), delta(insert("ab"), remove(2))},
		{"inserts with two sets and a delete between", delta(insert("a"), remove(2), insert("b", bold())), delta(insert("a"), insert("b", bold()), remove(2))},
		{"deletes", delta(remove(1), remove(2), remove(3)), delta(remove(6))},
		{"deletes with an insert between", delta(remove(1), insert("a"), remove(2)), delta(insert("a"), remove(3))},
		{"deletes with inserts between and behind", delta(remove(1), insert("a"), remove(2), insert("b"), remove(4), insert("c")), delta(insert("abc"), remove(7))},
		{"deletes with a retain between", delta(remove(1), retain(1), remove(2)), delta(remove(1), retain(1), remove(2))},
		{"an insert behind a delete, ahead of a retain", delta(remove(1), insert("a"), retain(1, p)), delta(insert("a"), remove(1), retain(1, p))},
		{"an insert behind a delete, between retains", delta(retain(1), remove(1), insert("a"), retain(1, p)), delta(retain(1), insert("a"), remove(1), retain(1, p))},
		{"an insert behind a delete, behind a retain", delta(retain(1, p), remove(1), insert("a")), delta(retain(1, p), insert("a"), remove(1))},
		{"a newline with its set behind a rune", delta(insert("a"), insert("\n", attr(11, num(1))), insert("\n", attr(11, num(1)))), delta(insert("a"), insert("\n\n", attr(11, num(1))))},
	}
	for _, c := range cases {
		t.Run(c.what, func(t *testing.T) {
			checkForm(t, c.x, c.form)
			checkIs(t, c.form, true)
			check(t, c.x)
		})
	}
}

// TestRetainsSideBySide holds each patch beside each other one, a field alone apart from it or more.
func TestRetainsSideBySide(t *testing.T) {
	end := insert("a")
	l, m := unlikePatches(), unlikePatches()
	for i, p := range l {
		for j, q := range m {
			x := delta(retain(2, p...), retain(3, q...), end)
			between := delta(retain(2, p...), remove(1), retain(3, q...), end)
			checkForm(t, between, between)
			checkIs(t, between, true)
			checkIs(t, x, i != j)
			if i != j {
				checkForm(t, x, x)
				check(t, delta(retain(2, p...), retain(3, q...), retain(4, p...), retain(5, p...), retain(6, q...), retain(7, q...)))
				continue
			}
			checkForm(t, x, delta(retain(5, p...), end))
			checkForm(t, slices.Repeat(x[:2], 50), delta(retain(250, p...))[:min(i, 1)])
		}
	}
}

// TestInsertsSideBySide holds each set beside each other one, and keeps the runes in their order.
func TestInsertsSideBySide(t *testing.T) {
	l, m := unlikeSets(), unlikeSets()
	for i, a := range l {
		for j, b := range m {
			x := delta(insert("ab", a...), insert("\nc", b...))
			apart := delta(x[0], retain(1), x[1])
			checkForm(t, apart, apart)
			checkIs(t, apart, true)
			checkIs(t, x, i != j)
			if i != j {
				checkForm(t, x, x)
				check(t, delta(x[0], x[1], remove(1), x[1], x[0], remove(2), x[0]))
				continue
			}
			checkForm(t, x, delta(insert("ab\nc", a...)))
			checkForm(t, delta(x[0], remove(2), x[1], remove(3), x[0]), delta(insert("ab\ncab", a...), remove(5)))
		}
	}
}

// TestNoListAndAnEmptyOne are one, of a set, and of a patch.
func TestNoListAndAnEmptyOne(t *testing.T) {
	patches := [][]api.Change{nil, {}, make([]api.Change, 2)[:0]}
	sets := [][]api.Attr{nil, {}, make([]api.Attr, 2)[:0]}
	for i := range patches {
		checkForm(t, delta(insert("a"), retain(1, patches[i]...)), delta(insert("a")))
		checkIs(t, delta(insert("a"), retain(1, patches[i]...)), false)
		for j := range patches {
			x := delta(retain(1, patches[i]...), retain(2, patches[j]...), remove(1))
			checkForm(t, x, delta(retain(3), remove(1)))
			checkIs(t, x, false)
			x = delta(insert("a", sets[i]...), insert("b", sets[j]...))
			checkForm(t, x, delta(insert("ab")))
			checkIs(t, x, false)
		}
	}
}

// TestOneGap has inserts and deletes in every order at one gap, ahead of the first retain, between two, and behind the last one.
func TestOneGap(t *testing.T) {
	p, q := gone(1), set(1, value.Flag(true))
	for _, x := range rowsOf(delta(insert("a"), insert("bc"), insert("d", bold()), remove(1), remove(2)), 5) {
		for _, at := range [][2][]api.Op{
			{nil, nil},
			{nil, delta(retain(1, p))},
			{nil, delta(retain(1), remove(1))},
			{delta(retain(1, p)), delta(retain(2, p))},
			{delta(retain(1, p)), delta(retain(2, q))},
			{delta(retain(1)), delta(retain(2), insert("e"))},
			{delta(retain(1)), nil},
			{delta(retain(1, q)), delta(retain(2))},
			{delta(insert("a"), remove(1), retain(1)), delta(retain(2, q), insert("a"), remove(1))},
		} {
			check(t, slices.Concat(at[0], x, at[1]))
		}
	}
}

func TestAllShortDeltas(t *testing.T) {
	for _, x := range rowsOf(someOps(), 4) {
		check(t, x)
	}
	for _, x := range rowsOf(delta(retain(1), retain(1, gone(1)), insert("a"), insert("b", bold()), remove(1)), 6) {
		check(t, x)
	}
}

// TestAllCuts: however a delta's ops are cut in pieces, its form is the same.
func TestAllCuts(t *testing.T) {
	of := delta(retain(3), retain(2, gone(1)), insert("abc"), insert("d\n", bold()), remove(3))
	for _, x := range rowsOf(of, 4) {
		form := formOf(x)
		for _, y := range cuts(x) {
			checkForm(t, y, form)
			checkIs(t, y, alikeOps(y, form))
		}
	}
}

func TestLongGaps(t *testing.T) {
	const many = 5000
	var runes []int32
	var x, turns, apart []api.Op
	for i := range many {
		l := []int32{int32(i), 10, int32(2 * i)}
		runes = append(runes, l...)
		x = append(x, remove(i+1), api.Op{Kind: 2, Runes: l})
		turns = append(turns, remove(2), insert("a"), remove(1), insert("b", bold()))
		apart = append(apart, insert("a"), insert("b", bold()))
	}
	deleted := many * (many + 1) / 2
	one := delta(api.Op{Kind: 2, Runes: runes}, remove(deleted))
	checkForm(t, x, one)
	checkForm(t, slices.Concat(delta(retain(1)), x, delta(retain(2, gone(1)))), slices.Concat(delta(retain(1)), one, delta(retain(2, gone(1)))))
	checkForm(t, slices.Concat(delta(retain(1)), x, delta(retain(2))), append(delta(retain(1)), one...))
	checkForm(t, turns, append(apart, remove(3*many)))
	checkIs(t, x, false)
	checkIs(t, append(apart, remove(3*many)), true)
	checkIs(t, append(apart, remove(3*many), insert("a")), false)
	checkForm(t, slices.Repeat(delta(retain(2, gone(1))), many), delta(retain(2*many, gone(1))))
	checkForm(t, slices.Repeat(delta(retain(1), retain(1, gone(1))), many), slices.Repeat(delta(retain(1), retain(1, gone(1))), many))
	checkForm(t, slices.Repeat(delta(retain(1), retain(2)), many), nil)
}

// TestOneOfMany has one fault alone at each place of a long delta that is normal else.
func TestOneOfMany(t *testing.T) {
	all := slices.Repeat(delta(retain(2, gone(1)), insert("a"), insert("bc", bold()), remove(2), retain(3)), 20)
	all = append(all, insert("a"))
	checkIs(t, all, true)
	checkForm(t, all, all)
	for i, o := range all {
		checkIs(t, slices.Insert(slices.Clone(all), i, o), false)
		checkForm(t, slices.Insert(slices.Clone(all), i, o), formOf(slices.Insert(slices.Clone(all), i, o)))
		check(t, all[:i])
		check(t, all[i:])
		if n := lengthOf(o); n > 1 {
			a, b := cut(o, 1)
			x := slices.Replace(slices.Clone(all), i, i+1, a, b)
			checkIs(t, x, false)
			checkForm(t, x, all)
		}
		if o.Kind == 3 {
			x := slices.Clone(all)
			x[i-1], x[i] = x[i], x[i-1]
			checkIs(t, x, false)
			checkForm(t, x, all)
		}
	}
}

// TestLengths has sums to the greatest that may be.
func TestLengths(t *testing.T) {
	p := gone(1)
	for _, n := range []int{1, 2, 1 << 15, 1 << 16, 1<<28 - 1, 1 << 28, 1<<29 - 1} {
		rest := 1<<29 - n
		checkForm(t, delta(retain(n, p), retain(rest, p)), delta(retain(1<<29, p)))
		checkForm(t, delta(retain(n), retain(rest)), nil)
		checkForm(t, delta(retain(n), retain(rest, p)), delta(retain(n), retain(rest, p)))
		checkForm(t, delta(remove(n), insert("a"), remove(rest)), delta(insert("a"), remove(1<<29)))
		checkForm(t, delta(retain(n), remove(rest)), delta(retain(n), remove(rest)))
	}
	runes := slices.Repeat([]int32{97, 10, 0x10ffff, 0}, 1<<18)
	one := api.Op{Kind: 2, Runes: runes, Set: []api.Attr{bold()}}
	a, b := cut(one, 1<<19+1)
	checkForm(t, delta(a, b), delta(one))
	checkForm(t, delta(a, remove(1), b), delta(one, remove(1)))
	checkForm(t, delta(one), delta(one))
	checkIs(t, delta(one), true)
	checkIs(t, delta(a, b), false)
}

// TestLongRowsOfCalls asks by a rule of many deltas, and of each in pieces, and with its inserts and deletes in other orders.
func TestLongRowsOfCalls(t *testing.T) {
	s := made(t)
	r := rule(16)
	count := [2]int{}
	for range 20000 {
		x := r.delta(1 + r.upTo(12))
		check(t, x)
		form := Of(x)
		checkForm(t, r.pieces(x), form)
		checkForm(t, r.swapped(x), form)
		checkForm(t, r.swapped(r.pieces(x)), form)
		if left := leftOut(x); ops.Takes(form) != ops.Takes(x)-left || ops.Makes(form) != ops.Makes(x)-left {
			t.Fatalf("%+v takes %d and makes %d; its form %d, %d; left out %d", x, ops.Takes(x), ops.Makes(x), ops.Takes(form), ops.Makes(form), left)
		}
		if e := ops.May(s, form); e != api.OK || ops.InPlace(s, form) != ops.InPlace(s, x) {
			t.Fatalf("the form of %+v: %+v, %d", x, form, e)
		}
		n := ops.Takes(x) + r.upTo(3)
		if !slices.Equal(done(form, n), done(x, n)) {
			t.Fatalf("%+v does something else than its form %+v", x, form)
		}
		if Is(x) {
			count[1]++
		} else {
			count[0]++
		}
	}
	if count[0] < 4000 || count[1] < 4000 {
		t.Errorf("normal or not so often: %v", count)
	}
}

func TestLongDeltas(t *testing.T) {
	r := rule(61)
	for range 100 {
		x := r.delta(2000)
		check(t, x)
		checkForm(t, r.swapped(r.pieces(x)), formOf(x))
	}
}

// TestWhatMayNotBe: of deltas that may not be all calls end, and none panics; and no length that is answered is below 0, as of sums that are wrapped.
func TestWhatMayNotBe(t *testing.T) {
	l := append(wrongOps(), retain(1), retain(1, gone(1)), insert("a"), remove(1))
	for _, o := range l {
		for _, p := range l {
			for _, x := range [][]api.Op{{o}, {o, p}, {o, p, o}, {p, p, insert("a"), o, o}} {
				handed := ops.Copy(x)
				form := Of(x)
				Is(x)
				if slices.ContainsFunc(form, func(o api.Op) bool { return o.Kind != 2 && o.N < 1 }) {
					t.Fatalf("Of %+v: %+v", x, form)
				}
				checkOps(t, "what was handed in", x, handed)
			}
		}
	}
	r := rule(6)
	for range 300 {
		x := r.delta(50)
		for i := range x {
			if r.upTo(3) == 0 {
				x[i] = l[r.upTo(len(l))]
			}
		}
		Is(x)
		checkOps(t, "Of, asked again", Of(x), Of(ops.Copy(x)))
	}
}

func TestSumsThatNoIntHolds(t *testing.T) {
	p := gone(1)
	for _, n := range []int{1, 2, 1 << 29, 1 << 62, math.MaxInt} {
		checkForm(t, delta(retain(math.MaxInt, p), retain(n, p)), delta(retain(math.MaxInt, p)))
		checkForm(t, delta(retain(n, p), retain(math.MaxInt, p)), delta(retain(math.MaxInt, p)))
		checkForm(t, delta(remove(math.MaxInt), insert("a"), remove(n), insert("b")), delta(insert("ab"), remove(math.MaxInt)))
		checkForm(t, delta(remove(math.MaxInt-n), remove(n)), delta(remove(math.MaxInt)))
	}
	checkForm(t, slices.Repeat(delta(retain(1<<62, p)), 5), delta(retain(math.MaxInt, p)))
	checkForm(t, slices.Repeat(delta(retain(1<<29, p)), 5), delta(retain(5<<29, p)))
}

// TestHandedInIsNotWrittenTo asks of the lists, and of what stands behind them in their memory.
func TestHandedInIsNotWrittenTo(t *testing.T) {
	for _, d := range deltas() {
		x := roomy(d)
		want := whole(x)
		form := formOf(d)
		for i := range len(x) + 1 {
			Of(x[:i])
			Is(x[:i])
			Of(x[i:])
			Is(x[i:])
		}
		checkOps(t, "what was handed in", whole(x), want)
		checkForm(t, x, form)
		checkIs(t, x, alikeOps(x, form))
	}
}

// TestFormGoesItsOwnWay writes over what was handed in, and over the form, and behind both.
func TestFormGoesItsOwnWay(t *testing.T) {
	for _, d := range deltas() {
		for _, d := range [][]api.Op{d, formOf(d)} {
			x, want := roomy(d), formOf(d)
			all := whole(x)
			form := Of(x)
			scrawl(form)
			checkOps(t, "what was handed in, behind writing over the form", whole(x), all)
			form = Of(x)
			scrawl(x)
			checkOps(t, "the form, behind writing over what was handed in", form, want)
		}
	}
}

// TestListsOfAForm share no memory, whatever those shared that were handed in.
func TestListsOfAForm(t *testing.T) {
	runes, on, by := []int32{97, 98, 99, 100}, []api.Attr{attr(1, num(1)), attr(2, num(2))}, []api.Change{gone(1), gone(2)}
	shared := delta(
		api.Op{Kind: 1, N: 1, Patch: by}, api.Op{Kind: 2, Runes: runes[:1], Set: on}, api.Op{Kind: 2, Runes: runes[1:], Set: on[:1]},
		api.Op{Kind: 1, N: 1, Patch: by}, api.Op{Kind: 2, Runes: runes[:2], Set: on}, api.Op{Kind: 2, Runes: runes[2:], Set: on}, api.Op{Kind: 1, N: 1, Patch: by[:1]},
	)
	for _, x := range append(deltas(), shared) {
		want := formOf(x)
		for i := range want {
			form := Of(x)
			scrawlLists(form[i])
			checkOps(t, "the ops ahead", form[:i], want[:i])
			checkOps(t, "the ops behind", form[i+1:], want[i+1:])
		}
	}
}

// TestAskedAgain: nothing is kept from call to call.
func TestAskedAgain(t *testing.T) {
	for _, x := range deltas() {
		for _, y := range deltas() {
			form := Of(x)
			checkForm(t, y, formOf(y))
			checkIs(t, y, isNormal(y))
			checkOps(t, "a form, behind others", form, formOf(x))
		}
	}
}
