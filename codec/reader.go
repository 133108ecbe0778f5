package codec

import (
	"math"

	"rubric/api"
	"rubric/runes"
	"rubric/wire"
)

// reader reads forms that stand behind one another. It tells apart what is a form and what is none, and no more: what it read may be a delta, or not. Once something is amiss, all that it answers is of no use.
type reader struct {
	b     []byte
	at    int
	amiss bool
}

func (r *reader) delta() []api.Op {
	return readList(r, func() api.Op {
		o := api.Op{Kind: r.kind()}
		switch o.Kind {
		case api.OpRetain:
			o.N = r.number()
			o.Patch = r.patch()
		case api.OpInsert:
			o.Runes = r.text()
			o.Set = r.set()
		case api.OpDelete:
			o.N = r.number()
		}
		return o
	})
}

func (r *reader) patch() []api.Change {
	return readList(r, func() api.Change {
		c := api.Change{Key: r.number(), Value: r.value()}
		c.Gone = c.Value.Kind == 0
		return c
	})
}

func (r *reader) set() []api.Attr {
	return readList(r, func() api.Attr {
		return api.Attr{Key: r.number(), Value: r.value()}
	})
}

// value reads a kind, and what a value of that kind has behind it: nothing, if there is no such kind.
func (r *reader) value() api.Value {
	v := api.Value{Kind: r.kind()}
	switch v.Kind {
	case api.ValFlag:
		fallthrough // a flag has the field that an integer has
	case api.ValInt:
		v.N = r.whole()
	case api.ValFloat:
		v.F = r.natural(math.MaxUint64)
	case api.ValText:
		v.S = string(r.bytes())
	}
	return v
}

func (r *reader) text() []int32 {
	l, e := runes.Read(r.bytes())
	r.note(e)
	return l
}

func (r *reader) kind() uint8 {
	return uint8(r.natural(math.MaxUint8))
}

// number reads what fits an int.
func (r *reader) number() int {
	return int(r.natural(math.MaxInt))
}

// natural reads what is not above most.
func (r *reader) natural(most uint64) uint64 {
	n, next, e := wire.Uint(r.b, r.at)
	r.goOn(next, e)
	if n > most {
		r.amiss = true
		return 0
	}
	return n
}

func (r *reader) whole() int64 {
	n, next, e := wire.Int(r.b, r.at)
	r.goOn(next, e)
	return n
}

func (r *reader) bytes() []byte {
	x, next, e := wire.Bytes(r.b, r.at, len(r.b))
	r.goOn(next, e)
	return x
}

func (r *reader) goOn(next int, e api.Errno) {
	r.at = next
	r.note(e)
}

func (r *reader) note(e api.Errno) {
	r.amiss = r.amiss || e != api.OK
}

// readList reads how many elements there are, and each of them by one, as long as nothing is amiss. Each has a byte or more, so that none need be read, if more are said to be there than bytes are.
func readList[T any](r *reader, one func() T) []T {
	n := r.natural(uint64(len(r.b)))
	var l []T
	for i := uint64(0); i < n && !r.amiss; i++ {
		l = append(l, one())
	}
	return l
}
