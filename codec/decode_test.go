package codec

import (
	"bytes"
	"math"
	"slices"
	"strings"
	"testing"

	"rubric/api"
	"rubric/normal"
	"rubric/ops"
	"rubric/schema"
)

// TestMalformed has bytes that are written by hand.
func TestMalformed(t *testing.T) {
	s := made(t, keys())
	most := "ff ff ff ff ff ff ff ff ff 01"
	for _, c := range []struct{ what, digits string }{
		{"no bytes", ""},
		{"one more byte", "00 00"},
		{"one more byte behind an op", "01 03 01 00"},
		{"fewer ops than said", "02 03 01"},
		{"many fewer", most},
		{"many fewer, behind one", most + "03 01"},
		{"2^63 ops", "80 80 80 80 80 80 80 80 80 01"},
		{"2^63 - 1 ops", "ff ff ff ff ff ff ff ff 7f"},
		{"2^32 + 1 ops", "81 80 80 80 10 03 01"},
		{"a number of ops that is no form", "81 00 03 01"},
		{"none, in a longer form", "80 00"},
		{"a number of more than ten bytes", "80 80 80 80 80 80 80 80 80 80 01"},
		{"a number of more than 64 bits", "80 80 80 80 80 80 80 80 80 02"},
		{"a number that does not end", "80"},
		{"an op of kind 0", "01 00 01"},
		{"of kind 0, alone", "01 00"},
		{"of kind 4", "01 04 01"},
		{"of kind 255", "01 ff 01 01"},
		{"of kind 256", "01 80 02"},
		{"of kind 256 + 1", "01 81 02 01 01 01 00"},
		{"of kind 256 + 2", "01 82 02 01 61 00"},
		{"of kind 256 + 3", "01 83 02 01"},
		{"of kind 2^32 + 3", "01 83 80 80 80 10 01"},
		{"of the greatest kind", "01" + most + "01"},
		{"a kind in a longer form", "01 83 00 01"},
		{"a kind alone", "01 03"},
		{"a retain alone", "01 01 01"},
		{"a delete of none", "01 03 00"},
		{"one of MaxLen and one more", "01 03 81 80 80 80 02"},
		{"one of 2^31", "01 03 80 80 80 80 08"},
		{"one of 2^32 + 1", "01 03 81 80 80 80 10"},
		{"one of 2^63 - 1", "01 03 ff ff ff ff ff ff ff ff 7f"},
		{"one of 2^63", "01 03 80 80 80 80 80 80 80 80 80 01"},
		{"one of 2^63 + 1", "01 03 81 80 80 80 80 80 80 80 80 01"},
		{"one of the greatest number", "01 03" + most},
		{"a length in a longer form", "01 03 81 00"},
		{"a retain of none", "01 01 00 01 01 00"},
		{"one of MaxLen and one more", "01 01 81 80 80 80 02 01 01 00"},
		{"one of 2^63 + 1", "01 01 81 80 80 80 80 80 80 80 80 01 01 01 00"},
		{"one of the greatest number", "01 01" + most + "01 01 00"},
		{"a patch of fewer changes than said", "01 01 01 02 01 00"},
		{"of many fewer", "01 01 01" + most + "01 00"},
		{"of 65", "01 01 01 41" + strings.Repeat("01 00", 65)},
		{"a change of no value", "01 01 01 01 01"},
		{"a value of kind 5", "01 01 01 01 01 05"},
		{"of kind 5, and a field", "01 01 01 01 01 05 01"},
		{"of kind 255", "01 01 01 01 01 ff 01"},
		{"of kind 256", "01 01 01 01 01 80 02"},
		{"of kind 256 + 2", "01 01 01 01 02 82 02 02"},
		{"of kind 2^32", "01 01 01 01 01 80 80 80 80 10"},
		{"of the greatest kind", "01 01 01 01 01" + most},
		{"Gone in a longer form", "01 01 01 01 01 80 00"},
		{"Gone, and a value", "01 01 01 01 01 00 02"},
		{"keys that fall", "01 01 01 02 02 00 01 00"},
		{"a key twice", "01 01 01 02 01 00 01 00"},
		{"a key of 2^63", "01 01 01 01 80 80 80 80 80 80 80 80 80 01 00"},
		{"of 2^63 + 1", "01 01 01 01 81 80 80 80 80 80 80 80 80 01 00"},
		{"the greatest key", "01 01 01 01" + most + "00"},
		{"a key in a longer form", "01 01 01 01 81 00 00"},
		{"an insert of no runes", "01 02 00 00"},
		{"an insert of no set", "01 02 01 61"},
		{"of fewer bytes than said", "01 02 02 61"},
		{"of a byte fewer than said, and its set", "01 02 02 61 00"},
		{"of many fewer", "01 02" + most + "61 00"},
		{"of 2^63 bytes", "01 02 80 80 80 80 80 80 80 80 80 01 61 00"},
		{"of 2^63 - 1 bytes", "01 02 ff ff ff ff ff ff ff ff 7f 61 00"},
		{"of no UTF-8", "01 02 01 ff 00"},
		{"of a longer UTF-8", "01 02 02 c0 8a 00"},
		{"of half a rune", "01 02 02 e2 82 00"},
		{"of what is left of one", "01 02 02 61 80 00"},
		{"of a surrogate", "01 02 03 ed a0 80 00"},
		{"of a number above all runes", "01 02 04 f4 90 80 80 00"},
		{"a set of fewer attributes than said", "01 02 01 61 01"},
		{"of many fewer", "01 02 01 61" + most + "01 01 02"},
		{"a value of kind 0", "01 02 01 61 01 01 00"},
		{"of kind 0, and a field", "01 02 01 61 01 01 00 02"},
		{"of kind 5", "01 02 01 61 01 01 05"},
		{"of kind 256 + 1", "01 02 01 61 01 01 81 02 02"},
		{"a flag that is 2", "01 02 01 61 01 01 01 04"},
		{"a flag that is -1", "01 02 01 61 01 01 01 01"},
		{"a flag of no field", "01 02 01 61 01 01 01"},
		{"an integer in a longer form", "01 02 01 61 01 02 02 80 00"},
		{"one of more than 64 bits", "01 02 01 61 01 02 02 80 80 80 80 80 80 80 80 80 02"},
		{"no number in another pattern", "01 02 01 61 01 03 03 81 80 80 80 80 80 80 fc 7f"},
		{"no number with a sign", "01 02 01 61 01 03 03 80 80 80 80 80 80 80 fc ff 01"},
		{"a text of no UTF-8", "01 02 01 61 01 04 04 01 80"},
		{"of 65 bytes", "01 02 01 61 01 04 04 41" + strings.Repeat("62", 65)},
		{"of many bytes", "01 02 01 61 01 04 04 81 01" + strings.Repeat("62", 129)},
		{"of fewer than said", "01 02 01 61 01 04 04 02 62"},
		{"of many fewer", "01 02 01 61 01 04 04" + most + "62"},
		{"of 64 that are not there", "01 02 01 61 01 04 04 40"},
		{"keys that fall in a set", "01 02 01 61 02 02 02 00 01 01 00"},
		{"a key of 2^63 in a set", "01 02 01 61 01 80 80 80 80 80 80 80 80 80 01 01 00"},
		{"retains side by side", "03 01 01 00 01 01 00 03 01"},
		{"retains with one patch", "02 01 01 01 01 00 01 01 01 01 00"},
		{"inserts side by side", "02 02 01 61 00 02 01 62 00"},
		{"inserts with one set", "02 02 01 61 01 01 01 02 02 01 62 01 01 01 02"},
		{"deletes side by side", "02 03 01 03 01"},
		{"an insert behind a delete", "02 03 01 02 01 61 00"},
		{"a retain at the end", "01 01 01 00"},
		{"one behind an op", "02 03 01 01 01 00"},
		{"retains and deletes of more than MaxLen", "02 01 80 80 80 80 02 01 01 00 03 01"},
		{"retains and inserts of more", "02 02 01 61 00 01 80 80 80 80 02 01 01 00"},
		{"a key that is none, and an op of no kind", "02 01 01 01 06 00 00"},
		{"a key that is none, and more bytes", "01 01 01 01 06 00 00"},
		{"a key that is none, and a retain at the end", "02 01 01 01 06 00 01 01 00"},
		{"a key that is none, twice", "02 01 01 01 06 00 01 01 01 06 00"},
		{"a key that is none, and a flag that is 2", "01 01 01 02 06 00 07 01 04"},
	} {
		b := row(t, c.digits)
		if _, e := decoded(s, b); e != api.ErrMalformed {
			t.Fatalf("%s: the model tells %d", c.what, e)
		}
		for _, s := range []*schema.Schema{s, nil, {}} {
			checkNotDecoded(t, s, b, api.ErrMalformed)
		}
	}
}

func TestKeys(t *testing.T) {
	s := made(t, keys())
	for _, digits := range []string{
		"01 01 01 01 00 00",
		"01 01 01 01 06 00",
		"01 01 01 01 e9 07 00",
		"01 01 01 01 ff ff ff ff ff ff ff ff 7f 00",
		"01 01 01 01 81 80 80 80 10 00",
		"01 01 01 01 01 02 02",
		"01 02 01 61 01 02 01 00",
		"01 02 01 61 01 04 03 00",
		"01 02 01 61 01 06 01 02",
		"02 01 01 01 06 00 03 01",
		"02 02 01 61 00 01 01 01 06 00",
	} {
		b := row(t, digits)
		checkRead(t, s, b)
		checkNotDecoded(t, s, b, api.ErrKey)
	}
	for _, x := range strange() {
		checkNotDecoded(t, s, bytesOf(x), api.ErrKey)
		checkNotDecoded(t, s, bytesOf(append(delta(remove(1)), x...)), decodedErrno(s, append(delta(remove(1)), x...)))
		checkNotDecoded(t, s, bytesOf(append(slices.Clone(x), retain(1))), api.ErrMalformed)
	}
}

func decodedErrno(s *schema.Schema, x []api.Op) api.Errno {
	_, e := decoded(s, bytesOf(x))
	return e
}

// samples are the bytes of few normal deltas that have all there is.
func samples(t *testing.T) [][]byte {
	t.Helper()
	l := [][]byte{row(t, "00")}
	for _, x := range slices.Concat(deltas()[:14], strange()[:12]) {
		l = append(l, bytesOf(normal.Of(x)))
	}
	return l
}

// TestBeginnings: what is cut off is no delta's bytes, nor is what has a byte more.
func TestBeginnings(t *testing.T) {
	s := made(t, keys())
	for _, b := range samples(t) {
		if e := checkRead(t, s, b); e == api.ErrMalformed {
			t.Fatalf("% x: malformed", b)
		}
		for i := range b {
			checkNotDecoded(t, s, b[:i], api.ErrMalformed)
		}
		for c := range 256 {
			checkNotDecoded(t, s, append(slices.Clone(b), byte(c)), api.ErrMalformed)
		}
		checkNotDecoded(t, s, slices.Concat(b, b), api.ErrMalformed)
	}
}

func TestOneByteChanged(t *testing.T) {
	s := made(t, keys())
	told := map[api.Errno]int{}
	for _, b := range samples(t) {
		for i := range b {
			for c := range 256 {
				d := slices.Clone(b)
				d[i] = byte(c)
				told[checkRead(t, s, d)]++
			}
		}
	}
	if told[api.OK] < 1000 || told[api.ErrMalformed] < 1000 || told[api.ErrKey] < 1000 {
		t.Errorf("told so often: %v", told)
	}
}

func TestOneByteLessOrMore(t *testing.T) {
	s := made(t, keys())
	for _, b := range samples(t) {
		for i := range b {
			checkRead(t, s, slices.Delete(slices.Clone(b), i, i+1))
			for _, c := range []byte{0, 1, 2, 3, 4, 5, 0x61, 0x7f, 0x80, 0xff} {
				checkRead(t, s, slices.Insert(slices.Clone(b), i, c))
			}
		}
	}
}

// replaced has other bytes in a piece's place.
func replaced(l []piece, i int, b []byte) []byte {
	return slices.Concat(joined(l[:i]), b, joined(l[i+1:]))
}

// TestNumbersThatAreNoForm stand in each number's place.
func TestNumbersThatAreNoForm(t *testing.T) {
	s := made(t, keys())
	nine := bytes.Repeat([]byte{0x80}, 9)
	for _, x := range slices.Concat(deltas(), strange()) {
		l := piecesOf(normal.Of(x))
		for i, p := range l {
			if !p.number {
				continue
			}
			longer := slices.Clone(p.b)
			longer[len(longer)-1] |= 0x80
			for _, b := range [][]byte{
				nil, {0x80}, {0x80, 0}, append(slices.Clone(longer), 0), append(slices.Clone(longer), 0x80, 0), longer, append(longer, nine...),
				append(slices.Clone(nine), 2), append(slices.Clone(nine), 0x7f), append(slices.Clone(nine), 0), append(slices.Clone(nine), 0x80, 1), append(slices.Clone(nine), 0xff, 0xff, 1),
			} {
				checkRead(t, s, replaced(l, i, b))
			}
			checkNotDecoded(t, s, replaced(l, i, append(slices.Clone(longer), 0)), api.ErrMalformed)
			checkNotDecoded(t, s, replaced(l, i, append(slices.Clone(nine), 2)), api.ErrMalformed)
		}
	}
}

// TestOtherNumbers stand in each number's place: counts of ops, attributes, changes and bytes, kinds, keys, lengths and values.
func TestOtherNumbers(t *testing.T) {
	s := made(t, keys())
	others := []uint64{0, 1, 2, 3, 4, 5, 6, 64, 65, 127, 128, 255, 256, 257, 258, 259, 260, 1000, 1001, 1 << 16, 1<<16 + 1, 1<<29 - 1, 1 << 29, 1<<29 + 1, 1 << 31, 1 << 32, 1<<32 + 1, 1<<62 - 1, 1 << 62, 1<<63 - 1, 1 << 63, 1<<63 + 1, math.MaxUint64 - 1, math.MaxUint64}
	for _, x := range slices.Concat(deltas(), strange()) {
		l := piecesOf(normal.Of(x))
		for i, p := range l {
			if !p.number {
				continue
			}
			for _, n := range append(others, p.n-1, p.n+1, p.n+256, p.n+1<<32, p.n+1<<63) {
				checkRead(t, s, replaced(l, i, formOf(n)))
			}
		}
	}
}

// TestOtherTexts stand in each text's place, with their lengths.
func TestOtherTexts(t *testing.T) {
	s := made(t, keys())
	texts := []string{"", "a", "\n", "\u00e4", "\xff", "\x80", "a\xc3", "\xc3\xa4\xa4", "\xed\xa0\x80", "\xf4\x90\x80\x80", "\xc0\x80", strings.Repeat("a", 64), strings.Repeat("a", 65), strings.Repeat("\u00e4", 32), strings.Repeat("\u00e4", 33), strings.Repeat("a", 130)}
	for _, x := range deltas() {
		l := piecesOf(normal.Of(x))
		for i, p := range l {
			if p.number {
				continue
			}
			for _, other := range texts {
				b := slices.Concat(joined(l[:i-1]), formOf(uint64(len(other))), []byte(other), joined(l[i+1:]))
				checkRead(t, s, b)
				checkRead(t, s, replaced(l, i, []byte(other)))
			}
		}
	}
}

// TestShortRows holds Decode against the model at all rows of few bytes that forms are made of.
func TestShortRows(t *testing.T) {
	s := made(t, []api.Key{{ID: 1, Kind: 1}, {ID: 2, Kind: 2}, {ID: 3, Kind: 3}, {ID: 4, Kind: 4}})
	told := map[api.Errno]int{}
	var grow func(of, b []byte, most int)
	grow = func(of, b []byte, most int) {
		told[checkRead(t, s, b)]++
		if len(b) == most {
			return
		}
		for _, c := range of {
			grow(of, append(b, c), most)
		}
	}
	grow([]byte{0, 1, 2, 3, 4, 5}, make([]byte, 0, 7), 7)
	grow([]byte{0, 1, 2, 3, 4, 0x61, 0x7f, 0x80, 0x81, 0xff}, make([]byte, 0, 5), 5)
	grow([]byte{1, 2, 3}, make([]byte, 0, 9), 9)
	if told[api.OK] < 30 || told[api.ErrKey] < 30 {
		t.Errorf("told so often: %v", told)
	}
}

// TestNotNormalIsNotRead has all rows of few ops, of which many are not normal.
func TestNotNormalIsNotRead(t *testing.T) {
	s := made(t, keys())
	some := delta(retain(1), retain(2), retain(1, gone(1)), retain(1, set(2, num(3))), insert("a"), insert("b"), insert("c", attr(1, yes())), insert("\n", attr(11, num(1))), remove(1), remove(2))
	for _, o := range some {
		for _, p := range some {
			for _, q := range some {
				for _, x := range [][]api.Op{{o}, {o, p}, {o, p, q}} {
					checkThereAndBack(t, s, x)
					if e := checkRead(t, s, bytesOf(x)); (e == api.OK) != normal.Is(x) {
						t.Fatalf("Decode of the ops %+v: %d", x, e)
					}
				}
			}
		}
	}
}

// TestSchemas: what is not there, and a zero one, have no keys; one with more keys reads the same.
func TestSchemas(t *testing.T) {
	s := made(t, keys())
	more := made(t, append(keys()[:9:9], api.Key{ID: 900, Kind: 1}, api.Key{ID: 1000, Block: true, Kind: 3}))
	for _, x := range deltas() {
		b := bytesOf(normal.Of(x))
		checkEncode(t, more, x, b)
		checkDecode(t, more, b, normal.Of(x))
		checkEncode(t, s, x, b)
		for _, none := range []*schema.Schema{nil, {}, made(t, nil)} {
			e := ops.May(none, x)
			if e == api.OK {
				checkThereAndBack(t, none, x)
				continue
			}
			checkNotEncoded(t, none, x, api.ErrKey)
			checkNotDecoded(t, none, b, decodedErrno(none, normal.Of(x)))
		}
	}
	plain := delta(retain(2), insert("ab\n"), remove(3))
	for _, none := range []*schema.Schema{nil, {}, made(t, nil)} {
		checkThereAndBack(t, none, plain)
		checkNotEncoded(t, none, delta(retain(1, gone(1))), api.ErrKey)
		checkNotDecoded(t, none, bytesOf(delta(retain(1, gone(1)))), api.ErrKey)
		checkNotEncoded(t, none, delta(retain(0)), api.ErrMalformed)
		checkNotDecoded(t, none, nil, api.ErrMalformed)
	}
}

// TestLongRowsOfDeltas asks by a rule of many deltas.
func TestLongRowsOfDeltas(t *testing.T) {
	s := made(t, keys())
	r := rule(71)
	for range 4000 {
		x := r.delta(1 + r.upTo(12))
		checkThereAndBack(t, s, x)
	}
	for range 20 {
		checkThereAndBack(t, s, r.delta(2000))
	}
}

// TestLongRowsOfBytes asks by a rule of many deltas' bytes that are changed, and of any bytes.
func TestLongRowsOfBytes(t *testing.T) {
	s := made(t, keys())
	r := rule(117)
	told := map[api.Errno]int{}
	for range 40000 {
		told[checkRead(t, s, r.changed(bytesOf(normal.Of(r.delta(4)))))]++
	}
	for range 40000 {
		b := make([]byte, r.upTo(12))
		for i := range b {
			b[i] = []byte{byte(r.upTo(256)), byte(r.upTo(5))}[r.upTo(2)]
		}
		told[checkRead(t, s, b)]++
	}
	if told[api.OK] < 1000 || told[api.ErrMalformed] < 1000 || told[api.ErrKey] < 300 {
		t.Errorf("told so often: %v", told)
	}
}

// TestMuchThatIsMalformed ends soon: each byte is read few times.
func TestMuchThatIsMalformed(t *testing.T) {
	most := formOf(math.MaxInt64)
	for _, each := range []string{"\x03\x01", "\x01\x01\x00", "\x02\x01a\x00", "\x00", "\x01\x01\x7f\x01\x00", "\x02\x7f", "\x02\x01a\x7f\x01\x00"} {
		all := bytes.Repeat([]byte(each), 1<<17)
		checkNotDecoded(t, nil, slices.Concat(most, all), api.ErrMalformed)
		checkNotDecoded(t, nil, slices.Concat(formOf(1<<17), all), api.ErrMalformed)
		checkNotDecoded(t, nil, slices.Concat([]byte{1, 1, 1}, most, all), api.ErrMalformed)
		checkNotDecoded(t, nil, slices.Concat([]byte{1, 1, 1}, formOf(1<<16), all), api.ErrMalformed)
		checkNotDecoded(t, nil, slices.Concat([]byte{1, 2}, formOf(uint64(len(all))), all), api.ErrMalformed)
	}
}
