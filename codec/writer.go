package codec

import (
	"rubric/api"
	"rubric/runes"
	"rubric/wire"
)

// writer puts forms behind one another. It is told of deltas that may be alone: no number of them is below 0 where a natural one is written.
type writer struct {
	b []byte
}

func (w *writer) delta(x []api.Op) {
	writeList(w, x, func(o api.Op) {
		w.natural(uint64(o.Kind))
		switch o.Kind {
		case api.OpRetain:
			w.natural(uint64(o.N))
			w.patch(o.Patch)
		case api.OpInsert:
			w.text(o.Runes)
			w.set(o.Set)
		case api.OpDelete:
			w.natural(uint64(o.N))
		}
	})
}

func (w *writer) patch(p []api.Change) {
	writeList(w, p, func(c api.Change) {
		w.natural(uint64(c.Key))
		w.value(c.Value) // of a key that is Gone it is the zero one, whose form is that of its kind, 0
	})
}

func (w *writer) set(set []api.Attr) {
	writeList(w, set, func(a api.Attr) {
		w.natural(uint64(a.Key))
		w.value(a.Value)
	})
}

func (w *writer) value(v api.Value) {
	w.natural(uint64(v.Kind))
	switch v.Kind {
	case api.ValFlag:
		fallthrough // a flag has the field that an integer has
	case api.ValInt:
		w.b = append(w.b, wire.AppendInt(nil, v.N)...)
	case api.ValFloat:
		w.natural(v.F)
	case api.ValText:
		w.bytes([]byte(v.S))
	}
}

func (w *writer) text(l []int32) {
	x, _ := runes.Bytes(l) // of a delta that may be all runes may be
	w.bytes(x)
}

// natural, as all that is written, has its form made alone, since wire copies what it is to stand behind.
func (w *writer) natural(n uint64) {
	w.b = append(w.b, wire.AppendUint(nil, n)...)
}

func (w *writer) bytes(x []byte) {
	w.b = append(w.b, wire.AppendBytes(nil, x)...)
}

// writeList writes how many elements l has, and has each of them written by one.
func writeList[T any](w *writer, l []T, one func(x T)) {
	w.natural(uint64(len(l)))
	for _, x := range l {
		one(x)
	}
}
