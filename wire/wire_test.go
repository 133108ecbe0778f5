package wire

import (
	"bytes"
	"math"
	"math/big"
	"math/bits"
	"slices"
	"strings"
	"testing"

	"rubric/api"
)

// formOf is the chapter's form of a natural number, by division, that the package's own is held against.
func formOf(n uint64) []byte {
	b := []byte{byte(n % 128)}
	for n /= 128; n > 0; n /= 128 {
		b[len(b)-1] += 128
		b = append(b, byte(n%128))
	}
	return b
}

// naturalFor is the chapter's natural number for a whole one, worked out without a bound.
func naturalFor(n int64) uint64 {
	x := big.NewInt(n)
	x.Mul(x, big.NewInt(2))
	if n < 0 {
		x.Neg(x).Sub(x, big.NewInt(1))
	}
	return x.Uint64()
}

// firstOf is the number with whose form b begins, and how many bytes that has: 0 and 0, if there is none. It tries all beginnings, and takes that which is its number's form.
func firstOf(b []byte) (uint64, int) {
	x := new(big.Int)
	for i, c := range b {
		d := big.NewInt(int64(c % 128))
		x.Add(x, d.Lsh(d, uint(7*i)))
		if x.IsUint64() && bytes.Equal(formOf(x.Uint64()), b[:i+1]) {
			return x.Uint64(), i + 1
		}
	}
	return 0, 0
}

// naturals are the numbers at which forms change, and those beside them.
func naturals() []uint64 {
	l := []uint64{0, 1, 2, 10, 126, 127, 128, 129, 255, 256, 300, math.MaxInt64 - 1, math.MaxInt64, math.MaxInt64 + 1, math.MaxUint64 - 1, math.MaxUint64}
	for k := 1; k <= 9; k++ {
		p := uint64(1) << (7 * k)
		l = append(l, p-1, p, p+1, 3*p, p+p/2)
	}
	for k := 0; k < 64; k++ {
		l = append(l, 1<<k, 1<<k-1, 0x9e3779b97f4a7c15>>k)
	}
	return l
}

// wholes are the whole numbers likewise.
func wholes() []int64 {
	l := []int64{0, 1, -1, 2, -2, 63, 64, -64, -65, math.MaxInt64, math.MaxInt64 - 1, math.MinInt64, math.MinInt64 + 1}
	for k := 0; k < 63; k++ {
		p := int64(1) << k
		l = append(l, p, p-1, p+(p-1), -p, -p-1, -p+1)
	}
	return l
}

func checkUint(t *testing.T, b []byte, at int, want uint64, next int) {
	t.Helper()
	if n, m, e := Uint(b, at); n != want || m != next || e != api.OK {
		t.Errorf("Uint of % x at %d: %d, %d, %d; want %d, %d, OK", b, at, n, m, e, want, next)
	}
}

func checkInt(t *testing.T, b []byte, at int, want int64, next int) {
	t.Helper()
	if n, m, e := Int(b, at); n != want || m != next || e != api.OK {
		t.Errorf("Int of % x at %d: %d, %d, %d; want %d, %d, OK", b, at, n, m, e, want, next)
	}
}

func checkBytes(t *testing.T, b []byte, at, most int, want string, next int) {
	t.Helper()
	if x, m, e := Bytes(b, at, most); string(x) != want || m != next || e != api.OK {
		t.Errorf("Bytes of % x at %d, most %d: % x, %d, %d; want % x, %d, OK", b, at, most, x, m, e, want, next)
	}
}

func checkBytesRefused(t *testing.T, b []byte, at, most int, want api.Errno) {
	t.Helper()
	if x, m, e := Bytes(b, at, most); x != nil || m != 0 || e != want {
		t.Errorf("Bytes of % x at %d, most %d: % x, %d, %d; want none, 0, %d", b, at, most, x, m, e, want)
	}
}

// checkRefused asks all three, with every error all other results being zero.
func checkRefused(t *testing.T, b []byte, at int, want api.Errno) {
	t.Helper()
	if n, m, e := Uint(b, at); n != 0 || m != 0 || e != want {
		t.Errorf("Uint of % x at %d: %d, %d, %d; want 0, 0, %d", b, at, n, m, e, want)
	}
	if n, m, e := Int(b, at); n != 0 || m != 0 || e != want {
		t.Errorf("Int of % x at %d: %d, %d, %d; want 0, 0, %d", b, at, n, m, e, want)
	}
	for _, most := range []int{math.MinInt, -1, 0, 1, math.MaxInt} {
		checkBytesRefused(t, b, at, most, want)
	}
}

// P2.1

func TestExamples(t *testing.T) {
	if b := AppendUint(nil, 300); !bytes.Equal(b, []byte{0xac, 0x02}) {
		t.Errorf("AppendUint of 300: % x", b)
	}
	if b := AppendInt(nil, -1); !bytes.Equal(b, []byte{1}) {
		t.Errorf("AppendInt of -1: % x", b)
	}
	if b := AppendInt(nil, 1); !bytes.Equal(b, []byte{2}) {
		t.Errorf("AppendInt of 1: % x", b)
	}
	checkRefused(t, []byte{0x80, 0x00}, 0, api.ErrMalformed)
	checkBytes(t, []byte{2, 'a', 'b', 'c'}, 0, 2, "ab", 3)
}

func TestFormsOfNaturalNumbers(t *testing.T) {
	cases := []struct {
		n    uint64
		form string
	}{
		{0, "\x00"},
		{1, "\x01"},
		{127, "\x7f"},
		{128, "\x80\x01"},
		{300, "\xac\x02"},
		{16383, "\xff\x7f"},
		{16384, "\x80\x80\x01"},
		{1<<21 - 1, "\xff\xff\x7f"},
		{1 << 21, "\x80\x80\x80\x01"},
		{math.MaxInt64, "\xff\xff\xff\xff\xff\xff\xff\xff\x7f"},
		{1 << 63, "\x80\x80\x80\x80\x80\x80\x80\x80\x80\x01"},
		{math.MaxUint64, "\xff\xff\xff\xff\xff\xff\xff\xff\xff\x01"},
	}
	for _, c := range cases {
		if b := AppendUint(nil, c.n); string(b) != c.form {
			t.Errorf("AppendUint of %d: % x; want % x", c.n, b, c.form)
		}
		checkUint(t, []byte(c.form), 0, c.n, len(c.form))
	}
}

func TestFormsAtPowers(t *testing.T) {
	for k := 1; k <= 9; k++ {
		p := uint64(1) << (7 * k)
		low := strings.Repeat("\xff", k-1) + "\x7f"
		high := strings.Repeat("\x80", k) + "\x01"
		if b := AppendUint(nil, p-1); string(b) != low {
			t.Errorf("AppendUint of 2^%d - 1: % x; want % x", 7*k, b, low)
		}
		if b := AppendUint(nil, p); string(b) != high {
			t.Errorf("AppendUint of 2^%d: % x; want % x", 7*k, b, high)
		}
		checkUint(t, []byte(low), 0, p-1, k)
		checkUint(t, []byte(high), 0, p, k+1)
	}
}

func TestFormsOfWholeNumbers(t *testing.T) {
	cases := []struct {
		n    int64
		form string
	}{
		{0, "\x00"},
		{-1, "\x01"},
		{1, "\x02"},
		{-2, "\x03"},
		{2, "\x04"},
		{63, "\x7e"},
		{-64, "\x7f"},
		{64, "\x80\x01"},
		{-65, "\x81\x01"},
		{150, "\xac\x02"},
		{math.MaxInt64, "\xfe\xff\xff\xff\xff\xff\xff\xff\xff\x01"},
		{math.MinInt64, "\xff\xff\xff\xff\xff\xff\xff\xff\xff\x01"},
	}
	for _, c := range cases {
		if b := AppendInt(nil, c.n); string(b) != c.form {
			t.Errorf("AppendInt of %d: % x; want % x", c.n, b, c.form)
		}
		checkInt(t, []byte(c.form), 0, c.n, len(c.form))
	}
}

func TestFormsOfBytes(t *testing.T) {
	cases := []struct{ x, form string }{
		{"", "\x00"},
		{"a", "\x01a"},
		{"\x00", "\x01\x00"},
		{"abc", "\x03abc"},
		{strings.Repeat("x", 127), "\x7f" + strings.Repeat("x", 127)},
		{strings.Repeat("\x80", 128), "\x80\x01" + strings.Repeat("\x80", 128)},
		{strings.Repeat("\xff", 300), "\xac\x02" + strings.Repeat("\xff", 300)},
		{strings.Repeat("\n", 16384), "\x80\x80\x01" + strings.Repeat("\n", 16384)},
	}
	for _, c := range cases {
		if b := AppendBytes(nil, []byte(c.x)); string(b) != c.form {
			t.Errorf("AppendBytes of %d bytes: % x; want % x", len(c.x), b, c.form)
		}
		checkBytes(t, []byte(c.form), 0, len(c.x), c.x, len(c.form))
	}
	if b := AppendBytes(nil, nil); string(b) != "\x00" {
		t.Errorf("AppendBytes of nil: % x", b)
	}
}

func TestNumbersThereAndBack(t *testing.T) {
	for _, n := range naturals() {
		b := AppendUint(nil, n)
		if !bytes.Equal(b, formOf(n)) {
			t.Errorf("AppendUint of %d: % x; want % x", n, b, formOf(n))
		}
		checkUint(t, b, 0, n, len(b))
	}
	for _, n := range wholes() {
		b := AppendInt(nil, n)
		if !bytes.Equal(b, formOf(naturalFor(n))) {
			t.Errorf("AppendInt of %d: % x; want % x", n, b, formOf(naturalFor(n)))
		}
		checkInt(t, b, 0, n, len(b))
	}
}

func TestAllSmallNumbersThereAndBack(t *testing.T) {
	for n := uint64(0); n < 1<<17; n++ {
		b := AppendUint(nil, n)
		m, next, e := Uint(b, 0)
		if !bytes.Equal(b, formOf(n)) || m != n || next != len(b) || e != api.OK {
			t.Fatalf("%d: % x; %d, %d, %d", n, b, m, next, e)
		}
	}
	for n := int64(-1 << 16); n <= 1<<16; n++ {
		b := AppendInt(nil, n)
		m, next, e := Int(b, 0)
		if !bytes.Equal(b, formOf(naturalFor(n))) || m != n || next != len(b) || e != api.OK {
			t.Fatalf("%d: % x; %d, %d, %d", n, b, m, next, e)
		}
	}
}

func TestWhatStoodThereStaysAhead(t *testing.T) {
	for _, b := range [][]byte{nil, {}, {0}, {0x80}, {0xff, 0xff}, []byte("ab\x80")} {
		for _, n := range naturals() {
			if o := AppendUint(b, n); !bytes.Equal(o, slices.Concat(b, formOf(n))) {
				t.Errorf("AppendUint of % x, %d: % x", b, n, o)
			}
		}
		for _, n := range wholes() {
			if o := AppendInt(b, n); !bytes.Equal(o, slices.Concat(b, formOf(naturalFor(n)))) {
				t.Errorf("AppendInt of % x, %d: % x", b, n, o)
			}
		}
		for _, x := range [][]byte{nil, {}, {0}, []byte("abc"), make([]byte, 200)} {
			if o := AppendBytes(b, x); !bytes.Equal(o, slices.Concat(b, formOf(uint64(len(x))), x)) {
				t.Errorf("AppendBytes of % x, % x: % x", b, x, o)
			}
		}
	}
}

// P2.2

func TestPlaces(t *testing.T) {
	b := []byte{0xac, 0x02, 0x00, 0x01, 'a', 0x7f}
	checkUint(t, b, 0, 300, 2)
	checkUint(t, b, 1, 2, 2)
	checkUint(t, b, 2, 0, 3)
	checkUint(t, b, 5, 127, 6)
	checkInt(t, b, 0, 150, 2)
	checkInt(t, b, 2, 0, 3)
	checkInt(t, b, 3, -1, 4)
	checkInt(t, b, 5, -64, 6)
	checkBytes(t, b, 2, 0, "", 3)
	checkBytes(t, b, 3, 1, "a", 5)
	checkRefused(t, b, len(b), api.ErrMalformed)
	for _, at := range []int{math.MinInt, -100, -2, -1, len(b) + 1, len(b) + 2, 1 << 40, math.MaxInt} {
		checkRefused(t, b, at, api.ErrRange)
	}
}

func TestPlacesInNothing(t *testing.T) {
	for _, b := range [][]byte{nil, {}} {
		checkRefused(t, b, 0, api.ErrMalformed)
		for _, at := range []int{math.MinInt, -1, 1, math.MaxInt} {
			checkRefused(t, b, at, api.ErrRange)
		}
	}
}

// A place that is none is told, whatever b has room for behind its end.
func TestNothingIsReadBehindTheEnd(t *testing.T) {
	whole := []byte{0xac, 0x02, 0x03, 'a', 'b', 'c'}
	checkRefused(t, whole[:1], 0, api.ErrMalformed)
	checkRefused(t, whole[:2], 2, api.ErrMalformed)
	checkRefused(t, whole[:2], 3, api.ErrRange)
	for n := 3; n < 6; n++ {
		checkBytesRefused(t, whole[:n], 2, 3, api.ErrMalformed)
	}
	checkBytes(t, whole, 2, 3, "abc", 6)
}

func TestLongerFormsThanNeedBe(t *testing.T) {
	for _, n := range naturals() {
		form := formOf(n)
		for more := 1; more <= 12; more++ {
			b := slices.Clone(form)
			b[len(b)-1] |= 0x80
			b = append(b, bytes.Repeat([]byte{0x80}, more-1)...)
			b = append(b, 0)
			checkRefused(t, b, 0, api.ErrMalformed)
			checkRefused(t, append(b, 1), 0, api.ErrMalformed)
			checkRefused(t, slices.Concat([]byte{5}, b), 1, api.ErrMalformed)
		}
	}
}

func TestFormsThatAreCutOff(t *testing.T) {
	for _, n := range naturals() {
		form := formOf(n)
		for k := range len(form) {
			checkRefused(t, form[:k], 0, api.ErrMalformed)
			checkRefused(t, slices.Concat([]byte{9, 9}, form[:k]), 2, api.ErrMalformed)
		}
	}
	for k := 1; k < 30; k++ {
		checkRefused(t, bytes.Repeat([]byte{0x80}, k), 0, api.ErrMalformed)
		checkRefused(t, bytes.Repeat([]byte{0xff}, k), 0, api.ErrMalformed)
	}
}

func TestFormsOfTooManyBytes(t *testing.T) {
	for _, fill := range []byte{0x80, 0x81, 0xff} {
		for k := 10; k < 80; k++ {
			for _, last := range []byte{0, 1, 2, 0x7f} {
				checkRefused(t, append(bytes.Repeat([]byte{fill}, k), last), 0, api.ErrMalformed)
			}
		}
	}
}

func TestNumbersThatDoNotFit(t *testing.T) {
	for _, fill := range []byte{0x80, 0x81, 0xff} {
		nine := bytes.Repeat([]byte{fill}, 9)
		for last := 2; last < 256; last++ {
			checkRefused(t, append(slices.Clone(nine), byte(last)), 0, api.ErrMalformed)
			checkRefused(t, append(slices.Clone(nine), byte(last), 0), 0, api.ErrMalformed)
			checkRefused(t, append(slices.Clone(nine), byte(last), 1), 0, api.ErrMalformed)
		}
	}
	checkUint(t, append(bytes.Repeat([]byte{0x80}, 9), 1), 0, 1<<63, 10)
}

// TestReadingShortRows holds Uint and Int against the chapter's words at all rows of up to five bytes at which forms change.
func TestReadingShortRows(t *testing.T) {
	turns := []byte{0x00, 0x01, 0x02, 0x3f, 0x40, 0x7f, 0x80, 0x81, 0xc0, 0xfe, 0xff}
	var grow func(b []byte)
	grow = func(b []byte) {
		checkAsWords(t, b)
		if len(b) == 5 {
			return
		}
		for _, x := range turns {
			grow(append(b, x))
		}
	}
	grow(make([]byte, 0, 5))
}

func TestReadingAllPairsOfBytes(t *testing.T) {
	for n := range 1 << 16 {
		checkAsWords(t, []byte{byte(n >> 8), byte(n)})
	}
}

// TestReadingLongRows goes to the ends of what 64 bits hold.
func TestReadingLongRows(t *testing.T) {
	for _, fill := range []byte{0x80, 0x81, 0xaa, 0xff} {
		for k := 7; k <= 10; k++ {
			row := bytes.Repeat([]byte{fill}, k)
			for x := range 256 {
				for _, y := range []byte{0, 1, 2, 0x80, 0xff} {
					checkAsWords(t, append(slices.Clone(row), byte(x), y))
				}
			}
		}
	}
}

func checkAsWords(t *testing.T, b []byte) {
	t.Helper()
	want, next := firstOf(b)
	n, m, e := Uint(b, 0)
	if next == 0 {
		if n != 0 || m != 0 || e != api.ErrMalformed {
			t.Fatalf("Uint of % x: %d, %d, %d; want 0, 0, ErrMalformed", b, n, m, e)
		}
		return
	}
	if n != want || m != next || e != api.OK {
		t.Fatalf("Uint of % x: %d, %d, %d; want %d, %d, OK", b, n, m, e, want, next)
	}
	w, m, e := Int(b, 0)
	if naturalFor(w) != want || m != next || e != api.OK {
		t.Fatalf("Int of % x: %d, %d, %d; want that of %d, %d, OK", b, w, m, e, want, next)
	}
}

func TestMost(t *testing.T) {
	b := []byte("\x03abcd")
	for _, most := range []int{math.MinInt, -3, -1, 0, 1, 2} {
		checkBytesRefused(t, b, 0, most, api.ErrMalformed)
	}
	for _, most := range []int{3, 4, 5, 1 << 40, math.MaxInt} {
		checkBytes(t, b, 0, most, "abc", 4)
	}
	none := []byte{0, 9}
	for _, most := range []int{0, 1, math.MaxInt} {
		checkBytes(t, none, 0, most, "", 1)
	}
	for _, most := range []int{math.MinInt, -1} {
		checkBytesRefused(t, none, 0, most, api.ErrMalformed)
	}
}

// A place that is none is told ahead of most, which no bytes hold to below 0.
func TestMostBelowNoneAtPlacesThatAreNone(t *testing.T) {
	for _, at := range []int{math.MinInt, -1, 5, math.MaxInt} {
		checkBytesRefused(t, []byte("\x03abc"), at, -1, api.ErrRange)
	}
}

func TestFewerBytesThanSaid(t *testing.T) {
	whole := AppendBytes(nil, make([]byte, 300))
	for _, n := range []int{2, 3, 100, 300, 301} {
		for _, most := range []int{0, 299, 300, math.MaxInt} {
			checkBytesRefused(t, whole[:n], 0, most, api.ErrMalformed)
		}
	}
	checkBytes(t, whole, 0, 300, string(make([]byte, 300)), 302)
	for _, n := range []uint64{1, 4, 1 << 31, 1 << 40, math.MaxInt64 - 1, math.MaxInt64, 1 << 63, 1<<63 + 3, math.MaxUint64 - 2, math.MaxUint64} {
		for _, most := range []int{math.MinInt, -1, 0, 3, 4, math.MaxInt} {
			checkBytesRefused(t, formOf(n), 0, most, api.ErrMalformed)
			if n > 3 {
				checkBytesRefused(t, append(formOf(n), 1, 2, 3), 0, most, api.ErrMalformed)
			}
		}
	}
}

func TestBytesOfNoNumber(t *testing.T) {
	for _, b := range []string{"", "\x80", "\x80\x00", "\x81\x00a", "\xff\xff\xff\xff\xff\xff\xff\xff\xff\x02a"} {
		for _, most := range []int{-1, 0, 1, math.MaxInt} {
			checkBytesRefused(t, []byte(b), 0, most, api.ErrMalformed)
		}
	}
}

// What follows

func TestFormsAmongOthers(t *testing.T) {
	sides := [][]byte{nil, {0}, {0x80}, {0xff, 0xff}, {0x7f, 0x01}, bytes.Repeat([]byte{0x80}, 12)}
	for _, ahead := range sides {
		for _, behind := range sides {
			for _, n := range naturals() {
				b := append(AppendUint(ahead, n), behind...)
				checkUint(t, b, len(ahead), n, len(b)-len(behind))
			}
			for _, n := range wholes() {
				b := append(AppendInt(ahead, n), behind...)
				checkInt(t, b, len(ahead), n, len(b)-len(behind))
			}
			for _, x := range []string{"", "\x00", "abc", strings.Repeat("\x80", 130)} {
				b := append(AppendBytes(ahead, []byte(x)), behind...)
				checkBytes(t, b, len(ahead), len(x), x, len(b)-len(behind))
			}
		}
	}
}

func TestFormsBehindOneAnother(t *testing.T) {
	var b []byte
	for _, n := range wholes() {
		b = AppendBytes(AppendInt(AppendUint(b, uint64(n)), n), formOf(uint64(n)))
	}
	at := 0
	for _, n := range wholes() {
		u, i, e := Uint(b, at)
		w, j, f := Int(b, i)
		x, k, g := Bytes(b, j, 10)
		if u != uint64(n) || w != n || !bytes.Equal(x, formOf(uint64(n))) || e != api.OK || f != api.OK || g != api.OK {
			t.Fatalf("at %d: %d, %d, % x; %d, %d, %d; want %d", at, u, w, x, e, f, g, n)
		}
		at = k
	}
	checkRefused(t, b, at, api.ErrMalformed)
	if at != len(b) {
		t.Error("the last form ends at", at, "of", len(b))
	}
}

func TestNoFormBeginsAnotherOne(t *testing.T) {
	l := naturals()
	slices.Sort(l)
	l = slices.Compact(l)
	for i, n := range l {
		for j, m := range l {
			if i != j && bytes.HasPrefix(AppendUint(nil, m), AppendUint(nil, n)) {
				t.Errorf("the form of %d begins that of %d", n, m)
			}
		}
		if size := len(AppendUint(nil, n)); size != max(1, (bits.Len64(n)+6)/7) {
			t.Errorf("the form of %d has %d bytes", n, size)
		}
	}
}

// R2: what is handed in is neither written to nor kept, and what is answered may be written over.

// roomy is a row with room behind it, all of which has a known byte.
func roomy(s string) (row, room []byte) {
	room = bytes.Repeat([]byte{0x55}, len(s)+400)
	copy(room, s)
	return room[:len(s)], room
}

func appenders() []func(b []byte) []byte {
	return []func(b []byte) []byte{
		func(b []byte) []byte { return AppendUint(b, 300) },
		func(b []byte) []byte { return AppendInt(b, -1) },
		func(b []byte) []byte { return AppendBytes(b, []byte("xyz")) },
		func(b []byte) []byte { return AppendBytes(b, nil) },
	}
}

func TestAppendedIsInMemoryOfItsOwn(t *testing.T) {
	for i, grow := range appenders() {
		want := "abc" + string(grow(nil))
		row, room := roomy("abc")
		before := string(room)
		o := grow(row)
		if string(room) != before {
			t.Errorf("%d: what is handed in, or the room behind it, was written to", i)
		}
		clear(room)
		if string(o) != want {
			t.Errorf("%d: % x; want % x, once what was handed in is written over", i, o, want)
		}
		row, room = roomy("abc")
		o = grow(row)
		clear(o[:cap(o)])
		if string(room) != before || string(grow(row)) != want {
			t.Errorf("%d: to write over the answer changes what was handed in", i)
		}
	}
}

func TestAppendedTwiceToOneRow(t *testing.T) {
	row, _ := roomy("abc")
	one, two, three := AppendUint(row, 1), AppendInt(row, 1), AppendBytes(row, []byte("a"))
	if string(one) != "abc\x01" || string(two) != "abc\x02" || string(three) != "abc\x01a" {
		t.Errorf("% x; % x; % x", one, two, three)
	}
	base := AppendUint(nil, 5)
	one, two = AppendUint(base, 1), AppendUint(base, 2)
	if string(one) != "\x05\x01" || string(two) != "\x05\x02" || string(base) != "\x05" {
		t.Errorf("% x; % x; % x", one, two, base)
	}
}

func TestAppendBytesKeepsNothing(t *testing.T) {
	x := []byte("xyz")
	o := AppendBytes([]byte("ab"), x)
	if string(x) != "xyz" {
		t.Errorf("AppendBytes wrote to its bytes: % x", x)
	}
	clear(x)
	if string(o) != "ab\x03xyz" {
		t.Errorf("the answer hangs on what was handed in: % x", o)
	}
	x = []byte("xyz")
	o = AppendBytes(nil, x)
	clear(o)
	if string(x) != "xyz" {
		t.Errorf("to write over the answer changes what was handed in: % x", x)
	}
}

// Both rows may be one, or lie in each other's room.
func TestAppendBytesOfRowsThatShare(t *testing.T) {
	row, room := roomy("abc")
	if o := AppendBytes(row, row); string(o) != "abc\x03abc" {
		t.Errorf("% x", o)
	}
	if o := AppendBytes(row, room[2:6]); string(o) != "abc\x04c\x55\x55\x55" {
		t.Errorf("% x", o)
	}
	if o := AppendBytes(room[1:3], row); string(o) != "bc\x03abc" {
		t.Errorf("% x", o)
	}
}

func TestReadingKeepsNothing(t *testing.T) {
	b := []byte("\x03abcd")
	x, _, _ := Bytes(b, 0, 3)
	Uint(b, 0)
	Int(b, 0)
	if string(b) != "\x03abcd" {
		t.Errorf("reading wrote to its bytes: % x", b)
	}
	y, _, _ := Bytes(b, 0, 3)
	clear(x[:cap(x)])
	if string(b) != "\x03abcd" || string(y) != "abc" {
		t.Errorf("to write over the answer changes % x, % x", b, y)
	}
	clear(b)
	if string(y) != "abc" {
		t.Errorf("the answer hangs on what was handed in: % x", y)
	}
}

func TestNoBytesMayBeWrittenBehind(t *testing.T) {
	b := []byte("\x00abc")
	x, _, _ := Bytes(b, 0, 3)
	_ = append(x, "zzz"...)
	if string(b) != "\x00abc" {
		t.Errorf("to append to the answer changes % x", b)
	}
}
