package codec

import (
	"bytes"
	"slices"
	"testing"

	"rubric/api"
	"rubric/normal"
	"rubric/ops"
)

// What is handed in is not written to, and not kept; what is answered may be written over.

// roomy is the same delta, each list of which has others behind it in its memory.
func roomy(x []api.Op) []api.Op {
	l := make([]api.Op, 0, len(x)+2)
	for _, o := range x {
		o.Runes = slices.Concat(o.Runes, []int32{120, 10, 0xd800})[:len(o.Runes)]
		o.Set = slices.Concat(o.Set, []api.Attr{attr(3, float(1)), attr(1, yes())})[:len(o.Set)]
		o.Patch = slices.Concat(o.Patch, []api.Change{gone(3), set(1, yes())})[:len(o.Patch)]
		l = append(l, o)
	}
	return append(l, retain(9), insert("behind"))[:len(x)]
}

// entire are the ops with all that stands behind them, and behind their lists, in memory of its own.
func entire(x []api.Op) []api.Op {
	l := slices.Clone(x[:cap(x)])
	for i, o := range l {
		l[i].Runes = slices.Clone(o.Runes[:cap(o.Runes)])
		l[i].Set = slices.Clone(o.Set[:cap(o.Set)])
		l[i].Patch = slices.Clone(o.Patch[:cap(o.Patch)])
	}
	return l
}

func scrawl(x []api.Op) {
	x = x[:cap(x)]
	for i := range x {
		scrawlLists(x[i])
		x[i] = api.Op{Kind: 77, N: 77, Runes: []int32{77}}
	}
}

func scrawlLists(o api.Op) {
	fill(o.Runes, 77)
	fill(o.Set, attr(77, num(77)))
	fill(o.Patch, api.Change{Key: 77, Gone: true, Value: num(77)})
}

func fill[T any](l []T, with T) {
	l = l[:cap(l)]
	for i := range l {
		l[i] = with
	}
}

func TestEncodeWritesToNothing(t *testing.T) {
	s := made(t, keys())
	for _, d := range slices.Concat(deltas(), strange()) {
		x := roomy(d)
		want := entire(x)
		for i := range len(x) + 1 {
			Encode(s, x[:i])
			Encode(s, x[i:])
			Encode(nil, x[:i])
		}
		checkOps(t, "what was handed in", entire(x), want)
	}
}

func TestBytesGoTheirOwnWay(t *testing.T) {
	s := made(t, keys())
	for _, d := range deltas() {
		x, want := roomy(d), bytesOf(normal.Of(d))
		all := entire(x)
		b, _ := Encode(s, x)
		fill(b, 0x77)
		checkOps(t, "what was handed in, behind writing over the bytes", entire(x), all)
		checkEncode(t, s, x, want)
		b, _ = Encode(s, x)
		scrawl(x)
		checkBytes(t, "the bytes, behind writing over what was handed in", b, want)
	}
}

func TestDecodeWritesToNothing(t *testing.T) {
	s := made(t, keys())
	for _, b := range samples(t) {
		room := slices.Concat(b, []byte("\x01\x02\x01a\x00"))
		want := slices.Clone(room)
		for i := range len(b) + 1 {
			Decode(s, room[:i])
			Decode(s, room[i:len(b)])
			Decode(nil, room[:i])
		}
		checkBytes(t, "what was handed in", room, want)
		if e := checkRead(t, s, room[:len(b)]); e == api.ErrMalformed {
			t.Fatalf("% x with room behind it: malformed", b)
		}
	}
}

func TestDecodedGoesItsOwnWay(t *testing.T) {
	s := made(t, keys())
	for _, d := range deltas() {
		want := normal.Of(d)
		b := bytesOf(want)
		room := slices.Concat(b, []byte("behind"))
		x, _ := Decode(s, room[:len(b)])
		fill(room, 0x77)
		checkOps(t, "what was told, behind writing over the bytes", x, want)
		room = slices.Concat(b, []byte("behind"))
		x, _ = Decode(s, room[:len(b)])
		scrawl(x)
		checkBytes(t, "what was handed in, behind writing over what was told", room, slices.Concat(b, []byte("behind")))
		checkDecode(t, s, b, want)
	}
}

// TestListsOfADelta share no memory, and to append to one writes to no other.
func TestListsOfADelta(t *testing.T) {
	s := made(t, keys())
	for _, d := range deltas() {
		want := normal.Of(d)
		b := bytesOf(want)
		for i := range want {
			x, _ := Decode(s, b)
			scrawlLists(x[i])
			checkOps(t, "the ops ahead", x[:i], want[:i])
			checkOps(t, "the ops behind", x[i+1:], want[i+1:])
			x, _ = Decode(s, b)
			fill(x[i].Runes, 77)
			x[i].Runes = nil
			checkOps(t, "an op without its runes", x[i:i+1], withoutRunes(want[i]))
		}
	}
}

func withoutRunes(o api.Op) []api.Op {
	o.Runes = nil
	return ops.Copy(delta(o))
}

// TestAskedAgain: nothing is kept from call to call, whatever is told between.
func TestAskedAgain(t *testing.T) {
	s, more := made(t, keys()), made(t, full())
	for _, x := range deltas() {
		b, _ := Encode(s, x)
		y, _ := Decode(s, b)
		was, were := slices.Clone(b), ops.Copy(y)
		for _, z := range slices.Concat(deltas()[:8], strange()[:8]) {
			c, e := Encode(s, z)
			d, f := Encode(s, z)
			if !bytes.Equal(c, d) || e != f {
				t.Fatalf("Encode of %+v: % x, %d; again % x, %d", z, c, e, d, f)
			}
			Encode(more, z)
			checkRead(t, s, bytesOf(z))
			checkRead(t, more, bytesOf(z))
			checkNotDecoded(t, s, append(bytesOf(z), 0), api.ErrMalformed)
		}
		checkBytes(t, "bytes, behind other calls", b, was)
		checkOps(t, "a delta, behind other calls", y, were)
	}
}
