package runes

import (
	"bytes"
	"math"
	"slices"
	"testing"

	"rubric/api"
)

// edges are the numbers at which a form, or what may be, changes.
var edges = []int32{0, 9, 10, 11, 0x7f, 0x80, 0x7ff, 0x800, 0xd7ff, 0xe000, 0xfffc, 0xfffd, 0xfffe, 0xffff, 0x10000, 0x10ffff}

// unfit are numbers that may not be.
var unfit = []int32{math.MinInt32, -0x10ffff, -10, -1, 0xd800, 0xd801, 0xdbff, 0xdc00, 0xdffe, 0xdfff, 0x110000, 0x1fffff, 0x7fffffff}

// formOf is the chapter's UTF-8 of a rune, written bit by bit, that the package's own is held against.
func formOf(r int32) []byte {
	six := func(shift int) byte { return 0x80 + byte(r>>shift&0x3f) }
	switch {
	case r < 0x80:
		return []byte{byte(r)}
	case r < 0x800:
		return []byte{0xc0 + byte(r>>6), six(0)}
	case r < 0x10000:
		return []byte{0xe0 + byte(r>>12), six(6), six(0)}
	}
	return []byte{0xf0 + byte(r>>18), six(12), six(6), six(0)}
}

// fits is the chapter's 'may be' of a rune.
func fits(r int32) bool {
	return r >= 0 && r < 0xd800 || r > 0xdfff && r <= 0x10ffff
}

// firstOf is the rune of which b begins with the form, and how many bytes that has; 0 and 0, if there is none.
func firstOf(b []byte) (int32, int) {
	for n := 1; n <= min(4, len(b)); n++ {
		r := int32(b[0])
		if n > 1 {
			r &= 0xff >> (n + 1)
		}
		for _, x := range b[1:n] {
			r = r<<6 | int32(x&0x3f)
		}
		if fits(r) && bytes.Equal(formOf(r), b[:n]) {
			return r, n
		}
	}
	return 0, 0
}

// readAll is what Read should answer of b.
func readAll(b []byte) ([]int32, api.Errno) {
	var l []int32
	for len(b) > 0 {
		r, n := firstOf(b)
		if n == 0 {
			return nil, api.ErrMalformed
		}
		l, b = append(l, r), b[n:]
	}
	return l, api.OK
}

func checkBytes(t *testing.T, l []int32, want []byte) {
	t.Helper()
	if b, e := Bytes(l); e != api.OK || !bytes.Equal(b, want) {
		t.Errorf("Bytes of %x: % x, %d; want % x", l, b, e, want)
	}
}

func checkRead(t *testing.T, b []byte, want []int32) {
	t.Helper()
	if l, e := Read(b); e != api.OK || !slices.Equal(l, want) {
		t.Errorf("Read of % x: %x, %d; want %x", b, l, e, want)
	}
}

func checkBytesRefused(t *testing.T, l []int32) {
	t.Helper()
	if b, e := Bytes(l); e != api.ErrMalformed || len(b) != 0 {
		t.Errorf("Bytes of %x: % x, %d; want none, ErrMalformed", l, b, e)
	}
}

func checkReadRefused(t *testing.T, b []byte) {
	t.Helper()
	if l, e := Read(b); e != api.ErrMalformed || len(l) != 0 {
		t.Errorf("Read of % x: %x, %d; want none, ErrMalformed", b, l, e)
	}
}

// P1.1

func TestMayAtEdges(t *testing.T) {
	for _, r := range edges {
		if !May(r) {
			t.Errorf("%#x should be a rune", r)
		}
	}
	for _, r := range unfit {
		if May(r) {
			t.Errorf("%#x should be no rune", r)
		}
	}
}

func TestMayOfAllNumbersNearby(t *testing.T) {
	for r := int32(-0x1000); r < 0x120000; r++ {
		if May(r) != fits(r) {
			t.Fatalf("May of %#x: %v", r, May(r))
		}
	}
}

func TestNewlines(t *testing.T) {
	cases := []struct {
		l    []int32
		want int
	}{
		{nil, 0},
		{[]int32{}, 0},
		{[]int32{10}, 1},
		{[]int32{97}, 0},
		{[]int32{10, 97, 10, 10, 98}, 3},
		{[]int32{0, 9, 11, 13, 0x85, 0x2028, 0x2029, -10, 0x10a, 0x1000a}, 0},
		{[]int32{0xd800, 10, -1, 0x110000}, 1}, // newlines are counted whatever else there is
	}
	for _, c := range cases {
		if n := Newlines(c.l); n != c.want {
			t.Errorf("Newlines of %x: %d; want %d", c.l, n, c.want)
		}
	}
}

// P1.2

func TestExamples(t *testing.T) {
	checkBytes(t, []int32{97, 10, 228}, []byte{0x61, 0x0a, 0xc3, 0xa4})
	checkBytesRefused(t, []int32{0xd800})
	checkReadRefused(t, []byte{0xc0, 0x80})
	checkReadRefused(t, []byte{0xe2, 0x82})
}

func TestFormsAtEdges(t *testing.T) {
	cases := []struct {
		r    int32
		form string
	}{
		{0, "\x00"},
		{10, "\x0a"},
		{0x7f, "\x7f"},
		{0x80, "\xc2\x80"},
		{0x7ff, "\xdf\xbf"},
		{0x800, "\xe0\xa0\x80"},
		{0xd7ff, "\xed\x9f\xbf"},
		{0xe000, "\xee\x80\x80"},
		{0xfffd, "\xef\xbf\xbd"},
		{0xffff, "\xef\xbf\xbf"},
		{0x10000, "\xf0\x90\x80\x80"},
		{0x10ffff, "\xf4\x8f\xbf\xbf"},
	}
	for _, c := range cases {
		checkBytes(t, []int32{c.r}, []byte(c.form))
		checkRead(t, []byte(c.form), []int32{c.r})
	}
}

func TestNoRunes(t *testing.T) {
	for _, l := range [][]int32{nil, {}} {
		checkBytes(t, l, nil)
	}
	for _, b := range [][]byte{nil, {}} {
		checkRead(t, b, nil)
	}
}

func TestEachRuneThereAndBack(t *testing.T) {
	var all []int32
	var text []byte
	for r := int32(0); r <= 0x10ffff; r++ {
		if !fits(r) {
			continue
		}
		form := formOf(r)
		b, e := Bytes([]int32{r})
		l, f := Read(form)
		if e != api.OK || !bytes.Equal(b, form) || f != api.OK || len(l) != 1 || l[0] != r {
			t.Fatalf("%#x: Bytes % x, %d; Read %x, %d", r, b, e, l, f)
		}
		all, text = append(all, r), append(text, form...)
	}
	if b, e := Bytes(all); e != api.OK || !bytes.Equal(b, text) {
		t.Error("Bytes of all runes in a row", len(b), e)
	}
	if l, e := Read(text); e != api.OK || !slices.Equal(l, all) {
		t.Error("Read of all runes in a row", len(l), e)
	}
}

func TestBytesRefusesEachUnfitRune(t *testing.T) {
	for _, r := range unfit {
		checkBytesRefused(t, []int32{r})
		checkBytesRefused(t, []int32{r, 97})
		checkBytesRefused(t, []int32{97, 10, r})
		checkBytesRefused(t, []int32{0x10ffff, r, 228})
	}
	for r := int32(0xd800); r <= 0xdfff; r++ {
		checkBytesRefused(t, []int32{r})
		checkReadRefused(t, formOf(r))
	}
}

func TestReadRefusesWhatIsNoText(t *testing.T) {
	cases := []string{
		"\xc0\x80", "\xc1\xbf", // longer than need be
		"\xe0\x80\x80", "\xe0\x9f\xbf", "\xe0\x80\x8a",
		"\xf0\x80\x80\x80", "\xf0\x8f\xbf\xbf", "\xf0\x80\x80\x8a",
		"\xf8\x88\x80\x80\x80", "\xfc\x84\x80\x80\x80\x80",
		"\xc3", "\xe2", "\xe2\x82", "\xf0", "\xf0\x9f", "\xf0\x9f\x98", // cut off
		"\xef\xbf",                     // the beginning of the replacement's own form
		"\x80", "\xbf", "\xfe", "\xff", // alone
		"\xed\xa0\x80", "\xed\xbf\xbf", "\xed\xa0\xbd\xed\xb8\x80", // surrogates
		"\xf4\x90\x80\x80", "\xf5\x80\x80\x80", "\xf7\xbf\xbf\xbf", // above 0x10ffff
	}
	for _, c := range cases {
		for _, ahead := range []string{"", "a", "\n", "\u00e4", "\ufffd", "\U0001f600"} {
			checkReadRefused(t, []byte(ahead+c))
			checkReadRefused(t, []byte(c+ahead))
			checkReadRefused(t, []byte(ahead+c+"b"))
		}
	}
}

func TestReadOfTheReplacementItself(t *testing.T) {
	checkRead(t, []byte("\ufffd"), []int32{0xfffd})
	checkRead(t, []byte("a\ufffd\ufffdb"), []int32{97, 0xfffd, 0xfffd, 98})
	checkReadRefused(t, []byte("\xff\ufffd"))
	checkReadRefused(t, []byte("\ufffd\xff\ufffd"))
}

func TestReadOfCutTexts(t *testing.T) {
	for _, r := range edges {
		form := formOf(r)
		for n := 1; n < len(form); n++ {
			checkReadRefused(t, form[:n])
			checkReadRefused(t, form[n:])
			checkReadRefused(t, append([]byte("a"), form[:n]...))
		}
	}
}

// TestReadOfShortRows holds Read against the chapter's words at all rows of up to four bytes at which forms change.
func TestReadOfShortRows(t *testing.T) {
	turns := []byte{0x00, 0x0a, 0x7f, 0x80, 0x8f, 0x90, 0x9f, 0xa0, 0xbd, 0xbf, 0xc0, 0xc1, 0xc2, 0xdf, 0xe0, 0xe1, 0xec, 0xed, 0xee, 0xef, 0xf0, 0xf1, 0xf3, 0xf4, 0xf5, 0xf8, 0xfe, 0xff}
	var grow func(b []byte)
	grow = func(b []byte) {
		want, we := readAll(b)
		if l, e := Read(b); e != we || !slices.Equal(l, want) {
			t.Fatalf("Read of % x: %x, %d; want %x, %d", b, l, e, want, we)
		}
		if len(b) == 4 {
			return
		}
		for _, x := range turns {
			grow(append(b, x))
		}
	}
	grow(make([]byte, 0, 4))
}

func TestReadOfAllPairsOfBytes(t *testing.T) {
	for n := 0; n < 1<<16; n++ {
		b := []byte{byte(n >> 8), byte(n)}
		want, we := readAll(b)
		if l, e := Read(b); e != we || !slices.Equal(l, want) {
			t.Fatalf("Read of % x: %x, %d; want %x, %d", b, l, e, want, we)
		}
	}
}

// R2: what is handed in is neither written to nor kept, and what is answered may be written over.

func TestBytesKeepsNothing(t *testing.T) {
	l := []int32{97, 10, 228}
	b, _ := Bytes(l)
	if !slices.Equal(l, []int32{97, 10, 228}) {
		t.Errorf("Bytes wrote to its runes: %x", l)
	}
	clear(l)
	if string(b) != "a\n\u00e4" {
		t.Errorf("the answer hangs on what was handed in: % x", b)
	}
	clear(b)
	checkBytes(t, []int32{97, 10, 228}, []byte("a\n\u00e4"))
}

func TestReadKeepsNothing(t *testing.T) {
	b := []byte("a\n\u00e4")
	l, _ := Read(b)
	if string(b) != "a\n\u00e4" {
		t.Errorf("Read wrote to its bytes: % x", b)
	}
	clear(b)
	if !slices.Equal(l, []int32{97, 10, 228}) {
		t.Errorf("the answer hangs on what was handed in: %x", l)
	}
	clear(l)
	checkRead(t, []byte("a\n\u00e4"), []int32{97, 10, 228})
}
