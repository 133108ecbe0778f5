package value

import (
	"bytes"
	"math"
	"math/big"
	"slices"
	"strings"
	"testing"
	"unicode/utf8"
	"unsafe"

	"rubric/api"
)

const (
	sign     = uint64(1) << 63
	infinity = uint64(0x7ff) << 52
	greatest = infinity - 1    // the bits of the greatest number
	normal   = uint64(1) << 52 // the bits of the least number above 0 that is not subnormal
)

func flag(n int64) api.Value   { return api.Value{Kind: api.ValFlag, N: n} }
func whole(n int64) api.Value  { return api.Value{Kind: api.ValInt, N: n} }
func float(f uint64) api.Value { return api.Value{Kind: api.ValFloat, F: f} }
func text(s string) api.Value  { return api.Value{Kind: api.ValText, S: s} }

// noNumber tells from the bits alone, as IEEE 754 has it.
func noNumber(bits uint64) bool { return bits&^sign > infinity }

// fits is the chapter's 'may be', in its words.
func fits(v api.Value) bool {
	switch v.Kind {
	case 1:
		return (v.N == 0 || v.N == 1) && v.F == 0 && v.S == ""
	case 2:
		return v.F == 0 && v.S == ""
	case 3:
		return v.N == 0 && v.S == "" && (!noNumber(v.F) || v.F == 0x7ff8000000000000)
	case 4:
		return v.N == 0 && v.F == 0 && len(v.S) <= 64 && utf8.ValidString(v.S)
	}
	return false
}

// place tells in which of the seven parts of the order of floats these bits lie.
func place(bits uint64) int {
	f := math.Float64frombits(bits)
	switch {
	case noNumber(bits):
		return 6
	case math.IsInf(f, -1):
		return 0
	case math.IsInf(f, 1):
		return 5
	case f < 0:
		return 1
	case f > 0:
		return 4
	case math.Signbit(f):
		return 2
	}
	return 3
}

// ahead is the chapter's order of values that may be, in its words.
func ahead(a, b api.Value) bool {
	if a.Kind != b.Kind {
		return a.Kind < b.Kind
	}
	switch a.Kind {
	case api.ValFloat:
		if p, q := place(a.F), place(b.F); p != q {
			return p < q
		}
		return math.Float64frombits(a.F) < math.Float64frombits(b.F)
	case api.ValText:
		return bytes.Compare([]byte(a.S), []byte(b.S)) < 0
	}
	return a.N < b.N
}

// wholes are the edges of whole numbers, and those at which they become too many for a float64, with those beside them, rising.
func wholes() []int64 {
	l := []int64{0, 1, 2, 3, 10, 255, 256, 257, math.MaxInt64, math.MaxInt64 - 1, math.MinInt64, math.MinInt64 + 1}
	for k := 30; k < 63; k++ {
		p := int64(1) << k
		for _, d := range []int64{0, 1, 2, 3, 5, 511, 512, 513, 1023, 1024, 1025, 1536, 1537} {
			l = append(l, p+d, p-d, math.MaxInt64-d)
		}
	}
	for _, n := range slices.Clone(l) {
		l = append(l, -n)
	}
	slices.Sort(l)
	return slices.Compact(l)
}

// numbers are the bits of floats at which something changes, none of them of what is no number, by the chapter's order.
func numbers() []uint64 {
	above := []uint64{1, 2, 3, normal - 1, normal, normal + 1, math.Float64bits(0.1), math.Float64bits(0.5),
		math.Float64bits(1), math.Float64bits(1) + 1, math.Float64bits(1.5), math.Float64bits(2), math.Float64bits(1 << 53),
		math.Float64bits(1 << 63), math.Float64bits(1e300), greatest - 1, greatest, infinity}
	var l []uint64
	for _, bits := range above {
		l = append(l, bits|sign)
	}
	slices.Reverse(l)
	l = append(l, sign, 0)
	return append(l, above...)
}

// noNumbers are patterns of what is no number other than the one that may be: each bit alone, all beside each, and both signs.
func noNumbers() []uint64 {
	const all = uint64(1)<<52 - 1
	l := []uint64{api.NaN | sign, 0x7ff8000000000001, 0x7fffffffffffffff, 0xffffffffffffffff, 0x7ff4000000000000}
	for k := 0; k < 52; k++ {
		for _, low := range []uint64{1 << k, all &^ (1 << k), 1<<k | 1<<51, 1<<k - 1} {
			if bits := infinity | low; low != 0 && bits != api.NaN {
				l = append(l, bits, bits|sign)
			}
		}
	}
	return l
}

// texts are texts that may be, rising byte by byte.
func texts() []string {
	l := []string{"", "\x00", "\x00\x00", "\n", "1", "10", "9", "A", "B", "a", "a\x00", "a\n", "aa", "ab", "b", "\x7f", "\u0080", "\u00e4", "\u07ff", "\u0800",
		"\ud7ff", "\ue000", "\ufffd", "\uffff", "\U00010000", "\U0010ffff",
		strings.Repeat("a", 63), strings.Repeat("a", 64), strings.Repeat("a", 63) + "b",
		strings.Repeat("\x00", 64), strings.Repeat("\n", 64),
		strings.Repeat("\u00e4", 32), strings.Repeat("\u20ac", 21), strings.Repeat("\u20ac", 21) + "z", strings.Repeat("\U0001f600", 16)}
	slices.Sort(l)
	return l
}

// noTexts are texts of at most 64 bytes that layer 1 does not read, and texts that are too long, however few runes they have.
func noTexts() []string {
	l := []string{"\x80", "\xbf", "\xff", "\xc0\x80", "\xc3", "\xe2\x82", "\xe2", "\xed\xa0\x80", "\xed\xbf\xbf", "\xf0\x80\x80\x8a", "\xf4\x90\x80\x80", "\xf8\x88\x80\x80\x80",
		"a\xff", "\xffa", "\ufffd\xff", strings.Repeat("a", 63) + "\xc3", strings.Repeat("\u00e4", 31) + "\xe2\x82",
		strings.Repeat("a", 65), strings.Repeat("a", 64) + "\x00", strings.Repeat("a", 63) + "\u00e4", strings.Repeat("\u00e4", 33), strings.Repeat("\u20ac", 22),
		strings.Repeat("\U0001f600", 17), strings.Repeat("\U0001f600", 16) + "a", strings.Repeat("\x00", 65), strings.Repeat("a", 1000), strings.Repeat("a", 1<<16),
		strings.Repeat("a", 64) + "\u00e4", strings.Repeat("a", 64) + "\xff", strings.Repeat("a", 256), strings.Repeat("a", 256+64)}
	return l
}

// rising are values that may be, by the chapter's order.
func rising() []api.Value {
	l := []api.Value{flag(0), flag(1)}
	for _, n := range wholes() {
		l = append(l, whole(n))
	}
	for _, bits := range numbers() {
		l = append(l, float(bits))
	}
	l = append(l, float(api.NaN))
	for _, s := range texts() {
		l = append(l, text(s))
	}
	return l
}

// unfit are values that may not be: of no kind, with a number or a text that the kind has not, and with fields that it has not.
func unfit() []api.Value {
	l := []api.Value{{}, {N: 1}, {F: 1}, {S: "a"}}
	for kind := 5; kind <= 255; kind++ {
		k := uint8(kind)
		l = append(l, api.Value{Kind: k}, api.Value{Kind: k, N: 1}, api.Value{Kind: k, F: api.NaN}, api.Value{Kind: k, S: "a"})
	}
	for _, n := range []int64{-1, -2, 2, 3, 256, 257, 1 << 32, 1<<32 + 1, math.MaxInt64, math.MinInt64, math.MinInt64 + 1} {
		l = append(l, flag(n))
	}
	for _, bits := range noNumbers() {
		l = append(l, float(bits))
	}
	for _, s := range noTexts() {
		l = append(l, text(s))
	}
	for _, v := range []api.Value{flag(0), flag(1), whole(0), whole(-7), float(0), float(sign), float(infinity), float(api.NaN), text(""), text("a")} {
		l = append(l, withOthers(v)...)
	}
	return l
}

// withOthers are v with one field, and with all fields, that its kind has not.
func withOthers(v api.Value) []api.Value {
	var l []api.Value
	n, f, s := v, v, v
	if v.Kind == api.ValFloat || v.Kind == api.ValText {
		for _, n.N = range []int64{1, -1, 1 << 32, math.MinInt64} {
			l = append(l, n)
		}
	}
	if v.Kind != api.ValFloat {
		for _, f.F = range []uint64{1, sign, api.NaN, math.MaxUint64} {
			l = append(l, f)
		}
	}
	if v.Kind != api.ValText {
		for _, s.S = range []string{"a", "\x00", "\xff", strings.Repeat("a", 65)} {
			l = append(l, s)
		}
	}
	return l
}

func checkFloat(t *testing.T, f float64, bits uint64) {
	t.Helper()
	if v := Float(f); v != float(bits) {
		t.Errorf("Float of %#x: %+v; want the bits %#x", math.Float64bits(f), v, bits)
	}
}

func checkText(t *testing.T, s string) {
	t.Helper()
	if v, e := Text(s); e != api.OK || v != text(s) {
		t.Errorf("Text of %q: %+v, %d; want that, OK", s, v, e)
	}
	if !May(text(s)) {
		t.Errorf("the text %q should be one that may be", s)
	}
}

func checkTextRefused(t *testing.T, s string) {
	t.Helper()
	if v, e := Text(s); e != api.ErrMalformed || v != (api.Value{}) {
		t.Errorf("Text of %q: %+v, %d; want a zero value, ErrMalformed", s, v, e)
	}
	if May(text(s)) {
		t.Errorf("the text %q should be none that may be", s)
	}
}

// checkNumber holds the bits, since -0 and 0 are alike otherwise, and NaN nothing.
func checkNumber(t *testing.T, v api.Value, bits uint64) {
	t.Helper()
	if f, ok := Number(v); !ok || math.Float64bits(f) != bits {
		t.Errorf("Number of %+v: %#x, %v; want %#x, true", v, math.Float64bits(f), ok, bits)
	}
}

func checkNoNumber(t *testing.T, v api.Value) {
	t.Helper()
	if f, ok := Number(v); ok || math.Float64bits(f) != 0 {
		t.Errorf("Number of %+v: %#x, %v; want 0, false", v, math.Float64bits(f), ok)
	}
}

func TestExamples(t *testing.T) {
	below, above := Float(math.Copysign(0, -1)), Float(0)
	if below == above || !Less(below, above) || Less(above, below) {
		t.Errorf("-0 and 0: %+v, %+v, %v, %v", below, above, Less(below, above), Less(above, below))
	}
	checkNumber(t, Float(math.Inf(1)), infinity)
	v, _ := Text("a")
	checkNoNumber(t, v)
	if May(float(0x7ff8000000000001)) {
		t.Error("a float of another pattern than NaN should not be")
	}
}

// The rows that the tests hold the package against are held against the chapter's words themselves.
func TestRowsOfTheTests(t *testing.T) {
	for _, v := range rising() {
		if !fits(v) {
			t.Errorf("%+v should fit", v)
		}
	}
	for _, v := range unfit() {
		if fits(v) {
			t.Errorf("%+v should not fit", v)
		}
	}
}

// P3.1

func TestMayOfAllThatMayBe(t *testing.T) {
	for _, v := range rising() {
		if !May(v) {
			t.Errorf("%+v should be a value that may be", v)
		}
	}
}

func TestMayOfWhatMayNotBe(t *testing.T) {
	for _, v := range unfit() {
		if May(v) {
			t.Errorf("%+v should be no value that may be", v)
		}
	}
}

// TestMayOfAllFields holds May against the chapter's words at all fields together, of each kind there is room for.
func TestMayOfAllFields(t *testing.T) {
	ns := []int64{math.MinInt64, -2, -1, 0, 1, 2, 1 << 32, math.MaxInt64}
	fs := []uint64{0, 1, sign, infinity, infinity | sign, api.NaN, api.NaN + 1, api.NaN | sign, infinity + 1, math.MaxUint64}
	ss := []string{"", "a", "\n", "\x00", "\xff", "\ufffd", strings.Repeat("a", 64), strings.Repeat("a", 65)}
	for kind := 0; kind <= 255; kind++ {
		for _, n := range ns {
			for _, f := range fs {
				for _, s := range ss {
					v := api.Value{Kind: uint8(kind), N: n, F: f, S: s}
					if May(v) != fits(v) {
						t.Fatalf("May of %+v: %v", v, May(v))
					}
				}
			}
		}
	}
}

func TestFlag(t *testing.T) {
	if v := Flag(true); v != flag(1) || !May(v) {
		t.Errorf("Flag of true: %+v", v)
	}
	if v := Flag(false); v != flag(0) || !May(v) {
		t.Errorf("Flag of false: %+v", v)
	}
}

func TestInt(t *testing.T) {
	for _, n := range wholes() {
		if v := Int(n); v != whole(n) || !May(v) {
			t.Errorf("Int of %d: %+v", n, v)
		}
	}
}

func TestFloatKeepsBits(t *testing.T) {
	for _, bits := range numbers() {
		checkFloat(t, math.Float64frombits(bits), bits)
	}
	for bits, k := uint64(1), 0; k < 1<<16; k++ {
		bits = bits*0x5851f42d4c957f2d + 0x14057b7ef767814f
		if !noNumber(bits) {
			checkFloat(t, math.Float64frombits(bits), bits)
		}
	}
	checkFloat(t, math.Copysign(0, -1), sign)
	checkFloat(t, math.SmallestNonzeroFloat64, 1)
	checkFloat(t, -math.MaxFloat64, greatest|sign)
	checkFloat(t, math.Inf(-1), infinity|sign)
}

func TestFloatOfWhatIsNoNumber(t *testing.T) {
	for _, bits := range noNumbers() {
		checkFloat(t, math.Float64frombits(bits), api.NaN)
	}
	checkFloat(t, math.Float64frombits(api.NaN), api.NaN)
	checkFloat(t, math.NaN(), api.NaN)
	checkFloat(t, math.Inf(1)-math.Inf(1), api.NaN)
	if !May(Float(math.NaN())) {
		t.Error("the one NaN should be a value that may be")
	}
}

func TestTextByLength(t *testing.T) {
	for _, r := range []string{"a", "\x00", "\n", "\u00e4", "\u20ac", "\ufffd", "\U0001f600"} {
		for n := 0; n*len(r) <= 2*api.MaxText; n++ {
			for _, more := range []string{"", "b", "bc", "bcd"} {
				s := strings.Repeat(r, n) + more
				if len(s) <= 64 {
					checkText(t, s)
				} else {
					checkTextRefused(t, s)
				}
			}
		}
	}
}

func TestTextsThatMayBe(t *testing.T) {
	for _, s := range texts() {
		checkText(t, s)
	}
}

func TestTextsThatMayNotBe(t *testing.T) {
	for _, s := range noTexts() {
		checkTextRefused(t, s)
	}
}

func TestTextsCutWithinARune(t *testing.T) {
	for _, r := range []string{"\u00e4", "\u20ac", "\ufffd", "\U0001f600"} {
		for n := 1; n < len(r); n++ {
			checkTextRefused(t, r[:n])
			checkTextRefused(t, r[n:])
			checkTextRefused(t, strings.Repeat("a", 64-n)+r[:n])
		}
	}
}

// TestTextIsItsOwn: a text that is handed in is not kept, so that its memory may be written over, where it is somebody's bytes.
func TestTextIsItsOwn(t *testing.T) {
	b := []byte("a text of some runes")
	v, e := Text(unsafe.String(&b[0], len(b)))
	if string(b) != "a text of some runes" {
		t.Errorf("Text wrote to what was handed in: %q", b)
	}
	clear(b)
	if e != api.OK || v.S != "a text of some runes" {
		t.Errorf("the value hangs on what was handed in: %q, %d", v.S, e)
	}
}

// P3.2

func TestNumberOfFloats(t *testing.T) {
	for _, bits := range numbers() {
		checkNumber(t, float(bits), bits)
		checkNumber(t, Float(math.Float64frombits(bits)), bits)
	}
	checkNumber(t, float(api.NaN), api.NaN)
	checkNumber(t, Float(math.NaN()), api.NaN)
}

func TestNumberOfWholesBetweenTwoFloats(t *testing.T) {
	const p53, p54, p62 = 1 << 53, 1 << 54, 1 << 62
	cases := []struct {
		n    int64
		want float64
	}{
		{0, 0}, {1, 1}, {300, 300}, {p53 - 1, p53 - 1}, {p53, p53},
		{p53 + 1, p53}, {p53 + 2, p53 + 2}, {p53 + 3, p53 + 4}, {p53 + 4, p53 + 4}, {p53 + 5, p53 + 4}, {p53 + 7, p53 + 8}, // as near: the even one
		{p54 - 1, p54}, {p54 - 3, p54 - 4},
		{p54 + 1, p54}, {p54 + 2, p54}, {p54 + 3, p54 + 4}, {p54 + 5, p54 + 4}, {p54 + 6, p54 + 8}, {p54 + 7, p54 + 8},
		{p62 + 511, p62}, {p62 + 512, p62}, {p62 + 513, p62 + 1024}, {p62 + 1535, p62 + 1024}, {p62 + 1536, p62 + 2048}, {p62 + 1537, p62 + 2048},
		{math.MaxInt64 - 512, 1<<63 - 1024}, {math.MaxInt64 - 511, 1 << 63}, {math.MaxInt64 - 510, 1 << 63}, {math.MaxInt64, 1 << 63},
		{math.MinInt64 + 1, -1 << 63},
	}
	for _, c := range cases {
		checkNumber(t, whole(c.n), math.Float64bits(c.want))
		if c.n != 0 {
			checkNumber(t, whole(-c.n), math.Float64bits(-c.want))
		}
	}
	checkNumber(t, whole(math.MinInt64), math.Float64bits(-1<<63))
}

// TestNumberOfWholesIsTheNearest holds Number against rounding of unbounded numbers.
func TestNumberOfWholesIsTheNearest(t *testing.T) {
	l := wholes()
	for n, k := uint64(1), 0; k < 1<<14; k++ {
		n = n*0x5851f42d4c957f2d + 0x14057b7ef767814f
		l = append(l, int64(n)>>(k%12))
	}
	for _, n := range l {
		x := new(big.Float).SetPrec(53).SetMode(big.ToNearestEven).SetInt64(n)
		want, _ := x.Float64()
		checkNumber(t, whole(n), math.Float64bits(want))
	}
}

func TestNumberOfWhatIsNone(t *testing.T) {
	for _, v := range rising() {
		if v.Kind == api.ValFlag || v.Kind == api.ValText {
			checkNoNumber(t, v)
		}
	}
	for _, v := range unfit() {
		checkNoNumber(t, v)
	}
}

// TestLessOfARow asks that of two values just the one that stands ahead in the row is ahead, and that none is ahead of itself.
func TestLessOfARow(t *testing.T) {
	l := rising()
	for i, a := range l {
		for j, b := range l {
			if Less(a, b) != (i < j) {
				t.Fatalf("Less of %+v and %+v: %v", a, b, Less(a, b))
			}
		}
	}
}

func TestLessBetweenKinds(t *testing.T) {
	last := []api.Value{flag(1), whole(math.MaxInt64), float(api.NaN), text(strings.Repeat("\U0010ffff", 16))}
	first := []api.Value{flag(0), whole(math.MinInt64), float(infinity | sign), text("")}
	for i, a := range last {
		for _, b := range first[i+1:] {
			if !Less(a, b) || Less(b, a) {
				t.Errorf("Less of %+v and %+v: %v, %v", a, b, Less(a, b), Less(b, a))
			}
		}
	}
}

func TestLessOfFloats(t *testing.T) {
	l := []uint64{infinity | sign, greatest | sign, math.Float64bits(-1), normal | sign, 1 | sign, sign, 0, 1, normal, math.Float64bits(1), greatest, infinity, api.NaN}
	for i, a := range l {
		for j, b := range l {
			if Less(float(a), float(b)) != (i < j) {
				t.Errorf("Less of the floats %#x and %#x: %v", a, b, Less(float(a), float(b)))
			}
		}
	}
}

func TestLessOfTexts(t *testing.T) {
	cases := []struct{ a, b string }{
		{"", "\x00"}, {"", "a"}, {"a", "aa"}, {"a", "a\x00"}, {"B", "a"}, {"10", "9"}, {"a", "b"}, {"ab", "b"}, {"a\xc3\xa4", "b"},
		{"z", "\u00e4"}, {"\u00e4", "\u20ac"}, {"\uffff", "\U00010000"},
		{strings.Repeat("a", 63), strings.Repeat("a", 64)}, {strings.Repeat("a", 64), strings.Repeat("a", 63) + "b"}, {strings.Repeat("a", 64), "b"},
	}
	for _, c := range cases {
		if a, b := text(c.a), text(c.b); !Less(a, b) || Less(b, a) || Less(a, a) || Less(b, b) {
			t.Errorf("Less of the texts %q and %q: %v, the other way round %v", c.a, c.b, Less(a, b), Less(b, a))
		}
	}
}

// TestLessOfManyPairs holds Less against the chapter's words at values of which nobody wrote the order down.
func TestLessOfManyPairs(t *testing.T) {
	var l []api.Value
	for n, k := uint64(1), 0; k < 300; k++ {
		n = n*0x5851f42d4c957f2d + 0x14057b7ef767814f
		high := n >> 32
		l = append(l, flag(int64(high&1)), whole(int64(n)), whole(int64(high)), Float(math.Float64frombits(n)), Float(float64(int64(high))-1<<31), float(high), float(high|sign))
		l = append(l, text(string([]rune{rune(high % 0xd800), rune(n >> 48 % 0xd800)})), text(string(rune(high%0x90))))
	}
	for _, a := range l {
		for _, b := range l {
			if Less(a, b) != ahead(a, b) {
				t.Fatalf("Less of %+v and %+v: %v", a, b, Less(a, b))
			}
			if a != b && Less(a, b) == Less(b, a) {
				t.Fatalf("just one of %+v and %+v should be ahead of the other", a, b)
			}
		}
	}
}

func TestLessOfWhatMayNotBe(t *testing.T) {
	good := []api.Value{flag(0), flag(1), whole(math.MinInt64), whole(0), whole(math.MaxInt64), float(infinity | sign), float(0), float(api.NaN), text(""), text("a"), text(strings.Repeat("\U0010ffff", 16))}
	bad := unfit()
	for i, v := range bad {
		for _, g := range good {
			if Less(v, g) || Less(g, v) {
				t.Errorf("Less of %+v and %+v: %v, the other way round %v; want neither", v, g, Less(v, g), Less(g, v))
			}
		}
		if o := bad[len(bad)-1-i]; Less(v, v) || Less(v, o) || Less(o, v) {
			t.Errorf("Less of %+v and %+v, that may not be: %v, the other way round %v, of the former alone %v", v, o, Less(v, o), Less(o, v), Less(v, v))
		}
	}
}
