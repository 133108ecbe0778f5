package codec

import (
	"bytes"
	"encoding/hex"
	"math"
	"runtime/debug"
	"slices"
	"strings"
	"testing"

	"rubric/api"
	"rubric/normal"
	"rubric/ops"
	"rubric/schema"
)

var (
	_ func(*schema.Schema, []api.Op) ([]byte, api.Errno) = Encode
	_ func(*schema.Schema, []byte) ([]api.Op, api.Errno) = Decode
)

// row is the bytes that these digits say, two each.
func row(t *testing.T, digits string) []byte {
	t.Helper()
	b, err := hex.DecodeString(strings.ReplaceAll(digits, " ", ""))
	if err != nil {
		t.Fatal(err)
	}
	return b
}

func TestExamples(t *testing.T) {
	s := made(t, keys())
	for _, c := range []struct {
		x      []api.Op
		digits string
	}{
		{nil, "00"},
		{delta(retain(2), insert("ab")), "02 01 02 00 02 02 61 62 00"},
		{delta(retain(1, set(5, num(3)))), "01 01 01 01 05 02 06"},
	} {
		b := row(t, c.digits)
		checkEncode(t, s, c.x, b)
		checkDecode(t, s, b, c.x)
	}
}

func TestNoDelta(t *testing.T) {
	for _, s := range []*schema.Schema{nil, {}, made(t, keys())} {
		for _, x := range [][]api.Op{nil, {}, make([]api.Op, 3)[:0]} {
			checkEncode(t, s, x, []byte{0})
		}
		checkEncode(t, s, delta(retain(3)), []byte{0})
		checkDecode(t, s, []byte{0}, nil)
	}
}

// TestInWords has bytes that are written by hand.
func TestInWords(t *testing.T) {
	s := made(t, keys())
	for _, c := range []struct {
		what   string
		x      []api.Op
		digits string
	}{
		{"a retain", delta(retain(1, gone(1))), "01 01 01 01 01 00"},
		{"one of 127", delta(retain(127, gone(1))), "01 01 7f 01 01 00"},
		{"one of 128", delta(retain(128, gone(1))), "01 01 80 01 01 01 00"},
		{"one of MaxLen", delta(retain(1<<29, gone(1))), "01 01 80 80 80 80 02 01 01 00"},
		{"a delete", delta(remove(1)), "01 03 01"},
		{"one of 127", delta(remove(127)), "01 03 7f"},
		{"one of 128", delta(remove(128)), "01 03 80 01"},
		{"one of MaxLen", delta(remove(1 << 29)), "01 03 80 80 80 80 02"},
		{"an insert", delta(insert("a")), "01 02 01 61 00"},
		{"one of runes of one to four bytes", delta(insert("\x00\n\x7f\u0080\u07ff\u0800\uffff\U00010000\U0010ffff")), "01 02 15 00 0a 7f c2 80 df bf e0 a0 80 ef bf bf f0 90 80 80 f4 8f bf bf 00"},
		{"one of 127", delta(insert(strings.Repeat("a", 127))), "01 02 7f" + strings.Repeat("61", 127) + "00"},
		{"one of 128", delta(insert(strings.Repeat("a", 128))), "01 02 80 01" + strings.Repeat("61", 128) + "00"},
		{"one of 64 runes, of two bytes each", delta(insert(strings.Repeat("\u00e4", 64))), "01 02 80 01" + strings.Repeat("c3 a4", 64) + "00"},
		{"a flag that is 0", delta(insert("a", attr(1, no()))), "01 02 01 61 01 01 01 00"},
		{"a flag that is 1", delta(insert("a", attr(1, yes()))), "01 02 01 61 01 01 01 02"},
		{"an integer that is 0", delta(insert("a", attr(2, num(0)))), "01 02 01 61 01 02 02 00"},
		{"one above 0", delta(insert("a", attr(2, num(64)))), "01 02 01 61 01 02 02 80 01"},
		{"one below 0", delta(insert("a", attr(2, num(-1)))), "01 02 01 61 01 02 02 01"},
		{"the least one", delta(insert("a", attr(2, num(math.MinInt64)))), "01 02 01 61 01 02 02 ff ff ff ff ff ff ff ff ff 01"},
		{"the greatest one", delta(insert("a", attr(2, num(math.MaxInt64)))), "01 02 01 61 01 02 02 fe ff ff ff ff ff ff ff ff 01"},
		{"a float that is 0", delta(insert("a", attr(3, float(0)))), "01 02 01 61 01 03 03 00"},
		{"one with a sign", delta(insert("a", attr(3, float(math.Copysign(0, -1))))), "01 02 01 61 01 03 03 80 80 80 80 80 80 80 80 80 01"},
		{"one that is 1", delta(insert("a", attr(3, float(1)))), "01 02 01 61 01 03 03 80 80 80 80 80 80 80 f8 3f"},
		{"one that is no number", delta(insert("a", attr(3, float(math.NaN())))), "01 02 01 61 01 03 03 80 80 80 80 80 80 80 fc 7f"},
		{"a text of no bytes", delta(insert("a", attr(4, text("")))), "01 02 01 61 01 04 04 00"},
		{"one of one", delta(insert("a", attr(4, text("b")))), "01 02 01 61 01 04 04 01 62"},
		{"one of several a rune", delta(insert("a", attr(4, text("\u00e4\u2028\U0010ffff")))), "01 02 01 61 01 04 04 09 c3 a4 e2 80 a8 f4 8f bf bf"},
		{"one of as many as may be", delta(insert("a", attr(4, text(strings.Repeat("b", 64))))), "01 02 01 61 01 04 04 40" + strings.Repeat("62", 64)},
		{"many attributes", delta(insert("\n", attr(11, num(1)), attr(12, text("b")), attr(13, yes()), attr(1000, float(0)))), "01 02 01 0a 04 0b 02 02 0c 04 01 62 0d 01 02 e8 07 03 00"},
		{"a change that is Gone, beside others", delta(retain(1, set(1, yes()), gone(2), set(3, float(0)), set(4, text("b")), gone(128))), "01 01 01 05 01 01 02 02 00 03 03 00 04 04 01 62 80 01 00"},
		{"a set, and inline and block keys in it", delta(insert("a", attr(1, yes()), attr(11, num(-2)))), "01 02 01 61 02 01 01 02 0b 02 03"},
		{"all kinds", delta(retain(2), insert("ab"), insert("c", attr(1, yes())), remove(3), retain(1, gone(1)), insert("\n")), "06 01 02 00 02 02 61 62 00 02 01 63 01 01 01 02 03 03 01 01 01 01 00 02 01 0a 00"},
		{"two retains that are not alike", delta(retain(1), retain(2, gone(1))), "02 01 01 00 01 02 01 01 00"},
	} {
		b := row(t, c.digits)
		checkBytes(t, c.what+", of the model", bytesOf(c.x), b)
		checkEncode(t, s, c.x, b)
		checkDecode(t, s, b, c.x)
	}
}

// TestNotNormal: the bytes of a delta are its normal form's.
func TestNotNormal(t *testing.T) {
	s := made(t, keys())
	for _, c := range []struct {
		what   string
		x      []api.Op
		digits string
	}{
		{"a retain at the end", delta(remove(1), retain(5)), "01 03 01"},
		{"retains alone", delta(retain(5), retain(3)), "00"},
		{"retains with one patch", delta(retain(1, gone(1)), retain(2, gone(1))), "01 01 03 01 01 00"},
		{"inserts with one set", delta(insert("a", attr(1, yes())), insert("\u00e4", attr(1, yes()))), "01 02 03 61 c3 a4 01 01 01 02"},
		{"deletes", delta(remove(100), remove(28)), "01 03 80 01"},
		{"an insert behind a delete", delta(remove(1), insert("a")), "02 02 01 61 00 03 01"},
		{"more of both", delta(remove(2), insert("a"), remove(3), insert("b"), retain(4)), "02 02 02 61 62 00 03 05"},
		{"pieces that come to 128 ops less", slices.Repeat(delta(remove(1)), 129), "01 03 81 01"},
	} {
		b := row(t, c.digits)
		checkEncode(t, s, c.x, b)
		checkDecode(t, s, b, normal.Of(c.x))
		checkNotDecoded(t, s, bytesOf(c.x), api.ErrMalformed)
	}
}

func TestValues(t *testing.T) {
	s := made(t, keys())
	for _, v := range someValues() {
		key := int(v.Kind)
		for _, x := range [][]api.Op{
			delta(insert("a", attr(key, v))),
			delta(retain(1, set(key, v))),
			delta(retain(1, set(key, v), gone(5)), remove(1), retain(1, set(key, v), set(1000, float(1)))),
		} {
			checkThereAndBack(t, s, x)
		}
		// Of a key whose values are of another kind nothing is written, and what is written is not read.
		other := key%4 + 1
		for _, x := range [][]api.Op{delta(insert("a", attr(other, v))), delta(retain(1, set(other, v)))} {
			checkNotEncoded(t, s, x, api.ErrKey)
			checkNotDecoded(t, s, bytesOf(x), api.ErrKey)
		}
	}
}

func TestSetsAndPatches(t *testing.T) {
	s := made(t, keys())
	for _, set := range someSets() {
		checkThereAndBack(t, s, delta(insert("a", set...)))
		checkThereAndBack(t, s, delta(retain(2), insert("a\n", set...), insert("b"), remove(1)))
	}
	for _, p := range somePatches() {
		checkThereAndBack(t, s, delta(retain(1, p...)))
		checkThereAndBack(t, s, delta(retain(1, p...), remove(1), retain(2, gone(13))))
	}
}

// TestAsManyKeysAsMayBe has 64, and one more than may be.
func TestAsManyKeysAsMayBe(t *testing.T) {
	s := made(t, full())
	for n := range 66 {
		var set []api.Attr
		var p, q []api.Change
		for i := range n {
			set = append(set, attr(100+i, num(int64(i-30))))
			p = append(p, api.Change{Key: 100 + i, Value: num(int64(i - 30))})
			q = append(q, gone(100+i))
		}
		for _, x := range [][]api.Op{delta(insert("a", set...)), delta(retain(1, p...), remove(1)), delta(retain(1, q...), remove(1))} {
			if n <= 64 {
				checkThereAndBack(t, s, x)
				continue
			}
			checkNotEncoded(t, s, x, api.ErrMalformed)
			checkNotDecoded(t, s, bytesOf(x), api.ErrMalformed)
		}
	}
}

// TestEachRune has all runes that may be: each alone, and all in one insert.
func TestEachRune(t *testing.T) {
	var all []int32
	for r := int32(0); r <= 0x10ffff; r++ {
		if 0xd800 <= r && r <= 0xdfff {
			continue
		}
		all = append(all, r)
		if r < 0x900 || r%251 == 0 || r&0xff >= 0xfe {
			checkThereAndBack(t, nil, delta(api.Op{Kind: 2, Runes: []int32{r}}))
		}
	}
	checkThereAndBack(t, nil, delta(api.Op{Kind: 2, Runes: all}))
}

func TestLengths(t *testing.T) {
	for _, n := range []int{1, 2, 63, 64, 127, 128, 129, 255, 256, 1<<14 - 1, 1 << 14, 1<<21 - 1, 1 << 21, 1<<28 - 1, 1 << 28, 1<<29 - 1, 1 << 29} {
		s := made(t, keys())
		checkThereAndBack(t, s, delta(retain(n, gone(1))))
		checkThereAndBack(t, s, delta(retain(n)))
		checkThereAndBack(t, s, delta(remove(n)))
		checkThereAndBack(t, s, delta(remove(n), insert("a")))
		if n <= 1<<21 {
			checkThereAndBack(t, s, delta(api.Op{Kind: 2, Runes: slices.Repeat([]int32{0x20ac}, n)}))
		}
	}
}

// TestTheLongestInsert has as many runes as may be. They take much memory, so that what is done with is freed soon.
func TestTheLongestInsert(t *testing.T) {
	defer debug.SetGCPercent(debug.SetGCPercent(5))
	b, e := Encode(nil, delta(api.Op{Kind: 2, Runes: make([]int32, 1<<29)}))
	ahead := []byte{1, 2, 0x80, 0x80, 0x80, 0x80, 2}
	if e != api.OK || len(b) != len(ahead)+1<<29+1 || !bytes.HasPrefix(b, ahead) || bytes.Count(b, []byte{0}) != 1<<29+1 {
		t.Fatalf("Encode of the longest insert: %d bytes, %d", len(b), e)
	}
	x, e := Decode(nil, b)
	if e != api.OK || len(x) != 1 || len(x[0].Runes) != 1<<29 || slices.ContainsFunc(x[0].Runes, func(r int32) bool { return r != 0 }) {
		t.Fatalf("Decode of the longest insert: %d ops, %d", len(x), e)
	}
}

// TestManyOps has as many ops as forms of their number change at, and many more.
func TestManyOps(t *testing.T) {
	s := made(t, keys())
	for _, n := range []int{1, 63, 64, 100, 8191, 8192, 100000} {
		x := slices.Repeat(delta(retain(1, gone(1)), insert("ab", attr(2, num(3)))), n)
		checkThereAndBack(t, s, x)
		checkThereAndBack(t, s, append(x, remove(1)))
	}
}

// TestWhatMayNotBe: the error is that which layer 15 tells.
func TestWhatMayNotBe(t *testing.T) {
	s := made(t, keys())
	falling := []api.Attr{attr(2, num(1)), attr(1, yes())}
	for _, c := range []struct {
		what string
		x    []api.Op
		e    api.Errno
	}{
		{"no kind", delta(api.Op{}), api.ErrMalformed},
		{"another kind", delta(api.Op{Kind: 4, N: 1}), api.ErrMalformed},
		{"the greatest kind", delta(api.Op{Kind: 255, N: 1}), api.ErrMalformed},
		{"a retain of none", delta(retain(0)), api.ErrMalformed},
		{"one of less", delta(retain(-1)), api.ErrMalformed},
		{"one of more than may be", delta(retain(1<<29 + 1)), api.ErrMalformed},
		{"a delete of none", delta(remove(0)), api.ErrMalformed},
		{"one of less", delta(remove(math.MinInt)), api.ErrMalformed},
		{"one of more than may be", delta(remove(math.MaxInt)), api.ErrMalformed},
		{"both together more", delta(retain(1<<29), remove(1)), api.ErrMalformed},
		{"an insert of none", delta(insert("")), api.ErrMalformed},
		{"a rune that may not be", delta(api.Op{Kind: 2, Runes: []int32{97, 0xd800}}), api.ErrMalformed},
		{"one below 0", delta(api.Op{Kind: 2, Runes: []int32{-1}}), api.ErrMalformed},
		{"a retain with runes", delta(api.Op{Kind: 1, N: 1, Runes: []int32{97}}), api.ErrMalformed},
		{"one with a set", delta(api.Op{Kind: 1, N: 1, Set: []api.Attr{attr(1, yes())}}), api.ErrMalformed},
		{"an insert with a length", delta(api.Op{Kind: 2, N: 1, Runes: []int32{97}}), api.ErrMalformed},
		{"one with a patch", delta(api.Op{Kind: 2, Runes: []int32{97}, Patch: []api.Change{gone(1)}}), api.ErrMalformed},
		{"a delete with a patch", delta(api.Op{Kind: 3, N: 1, Patch: []api.Change{gone(1)}}), api.ErrMalformed},
		{"keys that fall", delta(insert("a", falling...)), api.ErrMalformed},
		{"a key twice", delta(retain(1, gone(1), gone(1))), api.ErrMalformed},
		{"a value that is Gone", delta(retain(1, api.Change{Key: 1, Gone: true, Value: yes()})), api.ErrMalformed},
		{"a value of no kind", delta(retain(1, set(1, api.Value{}))), api.ErrMalformed},
		{"a field that the kind has not", delta(insert("a", attr(2, api.Value{Kind: 2, S: "a"}))), api.ErrMalformed},
		{"a key that is none", delta(retain(1, gone(6))), api.ErrKey},
		{"a key below 0", delta(insert("a", attr(-1, yes()))), api.ErrKey},
		{"the least key", delta(retain(1, gone(math.MinInt))), api.ErrKey},
		{"a value of another kind", delta(insert("a", attr(1, num(1)))), api.ErrKey},
		{"a key that is none, in a retain that is left out", delta(insert("a"), retain(1, gone(6))), api.ErrKey},
		{"a key that is none, and what is malformed behind it", delta(retain(1, gone(6)), retain(0)), api.ErrMalformed},
		{"a key that is none, and what is malformed ahead of it", delta(insert("\n", falling...), retain(1, gone(6))), api.ErrMalformed},
	} {
		if e := ops.May(s, c.x); e != c.e {
			t.Fatalf("%s: layer 15 tells %d; want %d", c.what, e, c.e)
		}
		checkNotEncoded(t, s, c.x, c.e)
		checkNotEncoded(t, s, append(delta(remove(1), insert("ab"), retain(1, gone(1))), c.x...), c.e)
		checkNotEncoded(t, s, append(slices.Clone(c.x), insert("ab")), c.e)
	}
	for _, x := range strange() {
		checkNotEncoded(t, s, x, api.ErrKey)
	}
	for _, v := range malformedValues() {
		for key := range 20 {
			checkNotEncoded(t, s, delta(insert("a", attr(key, v))), api.ErrMalformed)
			checkNotEncoded(t, s, delta(retain(1, set(key, v))), api.ErrMalformed)
		}
	}
}

// TestOneOpOfMany is wrong.
func TestOneOpOfMany(t *testing.T) {
	s := made(t, keys())
	x := slices.Repeat(delta(retain(1, gone(1)), insert("ab", attr(2, num(3))), remove(2)), 30)
	for i := range x {
		for _, c := range []struct {
			o api.Op
			e api.Errno
		}{{retain(0), api.ErrMalformed}, {insert(""), api.ErrMalformed}, {insert("a", attr(6, yes())), api.ErrKey}, {retain(1, gone(6)), api.ErrKey}} {
			y := slices.Clone(x)
			y[i] = c.o
			checkNotEncoded(t, s, y, c.e)
			if !normal.Is(y) {
				c.e = api.ErrMalformed
			}
			checkNotDecoded(t, s, bytesOf(y), c.e)
		}
	}
}

// TestOneForm: two deltas have the same bytes just if they have the same normal form.
func TestOneForm(t *testing.T) {
	s := made(t, keys())
	l := deltas()
	for _, p := range somePatches() {
		l = append(l, delta(retain(1, p...)), delta(retain(2, p...)))
	}
	for _, set := range someSets() {
		l = append(l, delta(insert("a", set...)), delta(insert("ab", set...)), delta(insert("a", set...), insert("b", set...)))
	}
	for _, v := range someValues() {
		l = append(l, delta(insert("a", attr(int(v.Kind), v))), delta(retain(1, set(int(v.Kind), v))))
	}
	for _, x := range l {
		for _, y := range l {
			b, _ := Encode(s, x)
			c, _ := Encode(s, y)
			if same := alikeOps(normal.Of(x), normal.Of(y)); (string(b) == string(c)) != same {
				t.Fatalf("%+v and %+v: % x, % x; one form: %v", x, y, b, c, same)
			}
		}
	}
}
