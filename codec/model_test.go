package codec

import (
	"bytes"
	"math"
	"math/big"
	"slices"
	"strings"
	"testing"
	"unicode/utf8"

	"rubric/api"
	"rubric/normal"
	"rubric/ops"
	"rubric/schema"
	"rubric/value"
)

// The model: the chapter's words, said of plain lists: of pieces that are put behind one another, and of bytes that are taken off one by one.

// piece is the form of a number, or the bytes that stand behind how many they are.
type piece struct {
	number bool
	n      uint64
	b      []byte
}

// formOf is the form of a natural number, by division.
func formOf(n uint64) []byte {
	b := []byte{byte(n % 128)}
	for n /= 128; n > 0; n /= 128 {
		b[len(b)-1] += 128
		b = append(b, byte(n%128))
	}
	return b
}

func natural(n uint64) piece { return piece{number: true, n: n, b: formOf(n)} }

// count is said of what is not below 0; of what is, it is a number that nothing may have.
func count(n int) piece { return natural(uint64(n)) }

func whole(n int64) piece {
	x := big.NewInt(n)
	x.Mul(x, big.NewInt(2))
	if n < 0 {
		x.Neg(x).Sub(x, big.NewInt(1))
	}
	return natural(x.Uint64())
}

func pieceOfBytes(s string) []piece { return []piece{count(len(s)), {b: []byte(s)}} }

func piecesOfValue(v api.Value) []piece {
	l := []piece{natural(uint64(v.Kind))}
	switch {
	case v.Kind == 1 || v.Kind == 2:
		l = append(l, whole(v.N))
	case v.Kind == 3:
		l = append(l, natural(v.F))
	case v.Kind == 4:
		l = append(l, pieceOfBytes(v.S)...)
	}
	return l
}

func piecesOfSet(set []api.Attr) []piece {
	l := []piece{count(len(set))}
	for _, a := range set {
		l = append(l, count(a.Key))
		l = append(l, piecesOfValue(a.Value)...)
	}
	return l
}

func piecesOfPatch(p []api.Change) []piece {
	l := []piece{count(len(p))}
	for _, c := range p {
		l = append(l, count(c.Key))
		if c.Gone {
			l = append(l, natural(0))
			continue
		}
		l = append(l, piecesOfValue(c.Value)...)
	}
	return l
}

// piecesOf are those of the ops as they stand, be they a normal delta or not.
func piecesOf(x []api.Op) []piece {
	l := []piece{count(len(x))}
	for _, o := range x {
		l = append(l, natural(uint64(o.Kind)))
		switch o.Kind {
		case 1:
			l = append(l, count(o.N))
			l = append(l, piecesOfPatch(o.Patch)...)
		case 2:
			l = append(l, pieceOfBytes(string(textOf(o.Runes)))...)
			l = append(l, piecesOfSet(o.Set)...)
		case 3:
			l = append(l, count(o.N))
		}
	}
	return l
}

func textOf(l []int32) []byte {
	var b []byte
	for _, r := range l {
		b = utf8.AppendRune(b, r)
	}
	return b
}

func joined(l []piece) []byte {
	var b []byte
	for _, p := range l {
		b = append(b, p.b...)
	}
	return b
}

// bytesOf are those of the ops as they stand.
func bytesOf(x []api.Op) []byte { return joined(piecesOf(x)) }

// taker takes what it reads off its bytes, and panics where there is none such.
type taker struct{ b []byte }

func (k *taker) number() uint64 {
	x := new(big.Int)
	for i, c := range k.b {
		d := big.NewInt(int64(c % 128))
		x.Add(x, d.Lsh(d, uint(7*i)))
		if c < 128 {
			if !x.IsUint64() || !bytes.Equal(formOf(x.Uint64()), k.b[:i+1]) {
				panic("another form")
			}
			k.b = k.b[i+1:]
			return x.Uint64()
		}
	}
	panic("no whole number")
}

func (k *taker) upTo(most uint64) uint64 {
	n := k.number()
	if n > most {
		panic("a number that is too great")
	}
	return n
}

func (k *taker) int() int { return int(k.upTo(math.MaxInt64)) }

func (k *taker) bytes() string {
	n := k.number()
	if n > uint64(len(k.b)) {
		panic("fewer bytes")
	}
	s := string(k.b[:n])
	k.b = k.b[n:]
	return s
}

func (k *taker) runes() []int32 {
	s := k.bytes()
	if !utf8.ValidString(s) {
		panic("no UTF-8")
	}
	return []int32(s)
}

func (k *taker) value() api.Value {
	v := api.Value{Kind: uint8(k.upTo(255))}
	switch {
	case v.Kind == 1 || v.Kind == 2:
		n := new(big.Int).SetUint64(k.number())
		if n.Bit(0) == 1 {
			n.Add(n, big.NewInt(1)).Neg(n)
		}
		v.N = n.Div(n, big.NewInt(2)).Int64()
	case v.Kind == 3:
		v.F = k.number()
	case v.Kind == 4:
		v.S = k.bytes()
	}
	return v
}

func (k *taker) set() []api.Attr {
	var l []api.Attr
	for n := k.number(); n > 0; n-- {
		key := k.int()
		l = append(l, attr(key, k.value()))
	}
	return l
}

func (k *taker) patch() []api.Change {
	var l []api.Change
	for _, a := range k.set() {
		l = append(l, api.Change{Key: a.Key, Gone: a.Value.Kind == 0, Value: a.Value})
	}
	return l
}

func (k *taker) op() api.Op {
	o := api.Op{Kind: uint8(k.upTo(3))}
	switch o.Kind {
	case 1:
		o.N = k.int()
		o.Patch = k.patch()
	case 2:
		o.Runes = k.runes()
		o.Set = k.set()
	case 3:
		o.N = k.int()
	}
	return o
}

// opsOf are the ops that have just these bytes, whether they may be or not.
func opsOf(b []byte) (x []api.Op, there bool) {
	defer func() {
		if recover() != nil {
			x, there = nil, false
		}
	}()
	k := &taker{b}
	for n := k.number(); n > 0; n-- {
		x = append(x, k.op())
	}
	return x, len(k.b) == 0
}

// decoded is what Decode has to answer.
func decoded(s *schema.Schema, b []byte) ([]api.Op, api.Errno) {
	x, there := opsOf(b)
	if !there || ops.May(s, x) == api.ErrMalformed || !alikeOps(normal.Of(x), x) {
		return nil, api.ErrMalformed
	}
	if e := ops.May(s, x); e != api.OK {
		return nil, e
	}
	return x, api.OK
}

func alikeValues(a, b api.Value) bool {
	return a.Kind == b.Kind && a.N == b.N && a.F == b.F && a.S == b.S
}

func alikeOps(x, y []api.Op) bool {
	return slices.EqualFunc(x, y, func(o, p api.Op) bool {
		sets := slices.EqualFunc(o.Set, p.Set, func(a, b api.Attr) bool { return a.Key == b.Key && alikeValues(a.Value, b.Value) })
		patches := slices.EqualFunc(o.Patch, p.Patch, func(c, d api.Change) bool {
			return c.Key == d.Key && c.Gone == d.Gone && alikeValues(c.Value, d.Value)
		})
		return sets && patches && o.Kind == p.Kind && o.N == p.N && slices.Equal(o.Runes, p.Runes)
	})
}

// The rows of the tests.

func yes() api.Value { return value.Flag(true) }

func no() api.Value { return value.Flag(false) }

func num(n int64) api.Value { return value.Int(n) }

func float(f float64) api.Value { return value.Float(f) }

func text(s string) api.Value { return api.Value{Kind: api.ValText, S: s} }

func attr(key int, v api.Value) api.Attr { return api.Attr{Key: key, Value: v} }

func set(key int, v api.Value) api.Change { return api.Change{Key: key, Value: v} }

func gone(key int) api.Change { return api.Change{Key: key, Gone: true} }

func retain(n int, p ...api.Change) api.Op { return api.Op{Kind: 1, N: n, Patch: p} }

func insert(s string, set ...api.Attr) api.Op { return api.Op{Kind: 2, Runes: []int32(s), Set: set} }

func remove(n int) api.Op { return api.Op{Kind: 3, N: n} }

func delta(x ...api.Op) []api.Op { return x }

// keys are inline and block ones of each kind.
func keys() []api.Key {
	return []api.Key{
		{ID: 1, Kind: 1}, {ID: 2, Kind: 2}, {ID: 3, Kind: 3}, {ID: 4, Kind: 4}, {ID: 5, Kind: 2},
		{ID: 11, Block: true, Kind: 2}, {ID: 12, Block: true, Kind: 4}, {ID: 13, Block: true, Kind: 1}, {ID: 128, Kind: 2}, {ID: 1000, Block: true, Kind: 3},
	}
}

// full are as many keys as may be.
func full() []api.Key {
	var l []api.Key
	for i := range 64 {
		l = append(l, api.Key{ID: 100 + i, Kind: 2})
	}
	return l
}

func made(t *testing.T, keys []api.Key) *schema.Schema {
	t.Helper()
	s, e := schema.New(keys)
	if e != api.OK {
		t.Fatalf("a schema of %+v: %d", keys, e)
	}
	return s
}

// someValues are of each kind, with its edges.
func someValues() []api.Value {
	l := []api.Value{yes(), no()}
	for _, n := range []int64{0, 1, -1, 2, -2, 63, 64, -64, -65, 150, 1 << 32, -1 << 32, math.MaxInt64 - 1, math.MaxInt64, math.MinInt64, math.MinInt64 + 1} {
		l = append(l, num(n))
	}
	for _, f := range []float64{0, math.Copysign(0, -1), 1, -1, 0.1, math.Pi, math.Inf(1), math.Inf(-1), math.NaN(), math.MaxFloat64, math.SmallestNonzeroFloat64, -math.MaxFloat64} {
		l = append(l, float(f))
	}
	for _, s := range []string{"", "a", "\x00", "\n", "\x7f", "\u0080", "\u00e4", "\u2028", "\ufffd", "\U00010000", "\U0010ffff", "a\u00e4\u2028\U0010ffff", strings.Repeat("b", 63), strings.Repeat("\u00e4", 32), strings.Repeat("\U0010ffff", 16)} {
		l = append(l, text(s))
	}
	return l
}

// malformedValues may not be, and have bytes all the same.
func malformedValues() []api.Value {
	return []api.Value{
		{Kind: 1, N: 2}, {Kind: 1, N: -1}, {Kind: 1, N: math.MinInt64}, {Kind: 1, N: math.MaxInt64}, {Kind: 1, N: 256}, {Kind: 1, N: 1 << 32},
		{Kind: 3, F: api.NaN + 1}, {Kind: 3, F: api.NaN - 1}, {Kind: 3, F: api.NaN | 1<<63}, {Kind: 3, F: math.MaxUint64},
		text("\xff"), text("a\x80"), text("\xc0\x80"), text("\xe2\x82"), text("\xed\xa0\x80"), text("\xf4\x90\x80\x80"), text(strings.Repeat("a", 65)), text(strings.Repeat("\u00e4", 33)), text(strings.Repeat("a", 1000)),
		{Kind: 5}, {Kind: 6}, {Kind: 128}, {Kind: 255},
	}
}

// someSets have none, one or many attributes of the keys, by the schema.
func someSets() [][]api.Attr {
	return [][]api.Attr{
		nil,
		{},
		{attr(1, yes())},
		{attr(4, text("a\u00e4"))},
		{attr(1, no()), attr(2, num(-3)), attr(3, float(0.5)), attr(4, text(""))},
		{attr(11, num(3)), attr(12, text("b")), attr(13, yes()), attr(1000, float(math.NaN()))},
		{attr(1, yes()), attr(1000, float(-1))},
		{attr(5, num(64)), attr(128, num(-1))},
	}
}

// somePatches are the sets as patches, and with one change after the other Gone.
func somePatches() [][]api.Change {
	var l [][]api.Change
	for _, s := range someSets() {
		p := []api.Change{}
		for _, a := range s {
			p = append(p, set(a.Key, a.Value))
		}
		l = append(l, p)
		for i := range p {
			q := slices.Clone(p)
			q[i] = gone(p[i].Key)
			l = append(l, q)
		}
	}
	return append(l, []api.Change{gone(1), gone(2), gone(1000)})
}

// deltas are such as may be, normal and not.
func deltas() [][]api.Op {
	r := rule(17)
	l := [][]api.Op{
		nil,
		delta(retain(2), insert("ab")),
		delta(retain(2, gone(1), set(2, num(3))), insert("ab\n\u00e4", attr(1, yes()), attr(4, text("a\u2028"))), remove(2)),
		delta(retain(2, gone(1)), retain(3, gone(1)), insert("a", attr(1, yes())), remove(2), insert("b", attr(1, yes())), insert("c"), retain(1)),
		delta(remove(300), insert("\U0010ffff\x00"), insert("\n", attr(11, num(-1)), attr(1000, float(0.1))), retain(1<<29-300, set(3, float(math.NaN())))),
	}
	for range 40 {
		l = append(l, r.delta(8))
	}
	return l
}

// strange are deltas that are well-formed and normal, of which the schema of the keys has not all, or not so.
func strange() [][]api.Op {
	l := [][]api.Op{
		delta(retain(1, gone(0))),
		delta(retain(1, gone(6)), remove(1)),
		delta(retain(1, gone(math.MaxInt))),
		delta(retain(1, set(1, num(1)))),
		delta(retain(1, set(1, yes()), set(2, yes()))),
		delta(insert("a", attr(2, float(1)))),
		delta(insert("a", attr(12, num(1)))),
		delta(insert("a", attr(1, yes()), attr(6, yes()))),
		delta(insert("a"), retain(3), insert("b", attr(1001, num(1))), remove(2), retain(1, gone(1))),
		delta(insert("a", attr(0, num(0)), attr(math.MaxInt, num(0)))),
	}
	for _, key := range []int{127, 129, 255, 256, 257, 256 + 1, 1 << 16, 1<<16 + 1, 1<<32 - 1, 1 << 32, 1<<32 + 1, 1<<62 + 1, math.MaxInt - 1, math.MaxInt} {
		l = append(l, delta(insert("a", attr(key, yes()))), delta(retain(7, gone(1), set(key, yes()))))
	}
	return l
}

// rule makes rows that are long and alike each time.
type rule uint64

func (r *rule) upTo(n int) int {
	*r = *r*6364136223846793005 + 1442695040888963407
	return int(uint64(*r) >> 33 % uint64(n))
}

func (r *rule) value(kind uint8) api.Value {
	l := slices.DeleteFunc(someValues(), func(v api.Value) bool { return v.Kind != kind })
	return l[r.upTo(len(l))]
}

// set is of few keys, so that often two are the same.
func (r *rule) set() []api.Attr {
	var l []api.Attr
	for _, k := range keys() {
		if r.upTo(8) == 0 {
			l = append(l, attr(k.ID, r.value(k.Kind)))
		}
	}
	return l
}

func (r *rule) patch() []api.Change {
	var p []api.Change
	for _, a := range r.set() {
		if r.upTo(3) == 0 {
			p = append(p, gone(a.Key))
			continue
		}
		p = append(p, set(a.Key, a.Value))
	}
	return p
}

func (r *rule) op() api.Op {
	switch r.upTo(3) {
	case 0:
		return retain([]int{1, 2, 127, 128, 20000}[r.upTo(5)], r.patch()...)
	case 1:
		o := insert("", r.set()...)
		for range 1 + r.upTo(6) {
			o.Runes = append(o.Runes, []int32{97, 10, 0, 0x7f, 0x80, 0x7ff, 0x800, 0xffff, 0x10000, 0x10ffff}[r.upTo(10)])
		}
		return o
	}
	return remove(1 + r.upTo(300))
}

func (r *rule) delta(most int) []api.Op {
	var x []api.Op
	for range r.upTo(most + 1) {
		x = append(x, r.op())
	}
	return x
}

// changed are the bytes with few of them changed, taken out or put between.
func (r *rule) changed(b []byte) []byte {
	b = slices.Clone(b)
	for range 1 + r.upTo(2) {
		i := r.upTo(len(b) + 1)
		c := []byte{byte(r.upTo(256)), byte(r.upTo(6)), 0x80}[r.upTo(3)]
		switch {
		case r.upTo(3) == 0 || i == len(b):
			b = slices.Insert(b, i, c)
		case r.upTo(3) == 0:
			b = slices.Delete(b, i, i+1)
		default:
			b[i] = c
		}
	}
	return b
}

// Checks. Each test ends at its first fault: the rows are long, and what is wrong with one is wrong with many.

func checkBytes(t *testing.T, what string, b, want []byte) {
	t.Helper()
	if !bytes.Equal(b, want) {
		t.Fatalf("%s: % x; want % x", what, b, want)
	}
}

func checkOps(t *testing.T, what string, x, want []api.Op) {
	t.Helper()
	if !alikeOps(x, want) {
		t.Fatalf("%s: %+v; want %+v", what, x, want)
	}
}

func checkEncode(t *testing.T, s *schema.Schema, x []api.Op, want []byte) {
	t.Helper()
	b, e := Encode(s, x)
	if !bytes.Equal(b, want) || e != api.OK {
		t.Fatalf("Encode of %+v: % x, %d; want % x, OK", x, b, e, want)
	}
}

func checkNotEncoded(t *testing.T, s *schema.Schema, x []api.Op, want api.Errno) {
	t.Helper()
	if b, e := Encode(s, x); len(b) != 0 || e != want {
		t.Fatalf("Encode of %+v: % x, %d; want none, %d", x, b, e, want)
	}
}

func checkDecode(t *testing.T, s *schema.Schema, b []byte, want []api.Op) {
	t.Helper()
	x, e := Decode(s, b)
	if !alikeOps(x, want) || e != api.OK {
		t.Fatalf("Decode of % x: %+v, %d; want %+v, OK", b, x, e, want)
	}
}

func checkNotDecoded(t *testing.T, s *schema.Schema, b []byte, want api.Errno) {
	t.Helper()
	if x, e := Decode(s, b); len(x) != 0 || e != want {
		t.Fatalf("Decode of % x: %+v, %d; want none, %d", b, x, e, want)
	}
}

// checkRead holds Decode of any bytes against the model, and against what follows; it tells what was told.
func checkRead(t *testing.T, s *schema.Schema, b []byte) api.Errno {
	t.Helper()
	want, told := decoded(s, b)
	x, e := Decode(s, b)
	if e != told || !alikeOps(x, want) {
		t.Fatalf("Decode of % x: %+v, %d; want %+v, %d", b, x, e, want, told)
	}
	if e == api.OK {
		checkEncode(t, s, x, b)
	}
	return e
}

// checkThereAndBack holds both calls of a delta that may be against the model.
func checkThereAndBack(t *testing.T, s *schema.Schema, x []api.Op) {
	t.Helper()
	form := normal.Of(x)
	b := bytesOf(form)
	checkEncode(t, s, x, b)
	checkEncode(t, s, form, b)
	checkDecode(t, s, b, form)
	if raw := bytesOf(x); !bytes.Equal(raw, b) {
		checkNotDecoded(t, s, raw, api.ErrMalformed)
	}
}

// TestRowsOfTheTests holds the model, and what the tests are made of, against what they say of themselves.
func TestRowsOfTheTests(t *testing.T) {
	s := made(t, keys())
	for _, x := range deltas() {
		if e := ops.May(s, x); e != api.OK {
			t.Errorf("%+v: %d", x, e)
		}
		if y, there := opsOf(bytesOf(x)); !there || !alikeOps(y, x) {
			t.Errorf("%+v is read as %+v", x, y)
		}
	}
	for _, x := range strange() {
		if y, there := opsOf(bytesOf(x)); ops.May(s, x) != api.ErrKey || !normal.Is(x) || !there || !alikeOps(y, x) {
			t.Errorf("%+v: %d, %v; read as %+v", x, ops.May(s, x), normal.Is(x), y)
		}
	}
	for _, v := range someValues() {
		if !value.May(v) {
			t.Errorf("%+v may not be", v)
		}
	}
	for _, v := range malformedValues() {
		if value.May(v) {
			t.Errorf("%+v may be", v)
		}
	}
	for _, set := range someSets() {
		checkOps(t, "a set", normal.Of(delta(insert("a", set...))), delta(insert("a", set...)))
		if e := ops.May(s, delta(insert("a", set...))); e != api.OK {
			t.Errorf("%+v: %d", set, e)
		}
	}
	for _, p := range somePatches() {
		if e := ops.May(s, delta(retain(1, p...))); e != api.OK {
			t.Errorf("%+v: %d", p, e)
		}
	}
}
