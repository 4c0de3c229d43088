package frame

import (
	"bytes"

	"spillway/api"
	"spillway/varint"
)

// eye reads till something is wrong; from then on all that it reads is zero, and what was wrong first stays.
type eye struct {
	left  []byte
	wrong api.Errno
}

// frame by its parts, in their order (P4.4).
func (y *eye) frame() api.Frame {
	var f api.Frame
	f.Kind, f.Fin = y.kind()
	kind, known := partsOf(f.Kind)
	y.refuse(!known, api.ErrKind)
	if kind.has(hasRanges) {
		f.Ranges = y.ranges()
	}
	if kind.has(hasId) {
		f.Id = y.number()
	}
	if kind.has(hasOff) {
		f.Off = y.number()
	}
	switch {
	case kind.has(longCode):
		f.Code = int(y.word())
	case kind.has(hasCode):
		f.Code = y.number()
	}
	if kind.has(hasData) {
		f.Data = y.data()
	}
	return f
}

// kind of a frame, and whether it has Fin.
func (y *eye) kind() (kind int, fin bool) {
	n := y.number()
	switch n {
	case streamGoesOn, streamEnds:
		return api.Stream, n == streamEnds
	case api.Stream:
		y.refuse(true, api.ErrKind)
	}
	return n, false
}

// ranges of an Ack, the highest one first.
func (y *eye) ranges() []api.Range {
	hi := y.number()
	behind := y.number()
	y.refuse(behind >= api.MaxRanges, api.ErrSize)
	l := []api.Range{y.downFrom(hi)}
	for len(l) <= behind && y.wrong == api.OK {
		hi = l[len(l)-1].Lo - y.number() - 2
		l = append(l, y.downFrom(hi))
	}
	return l
}

// downFrom the highest number of a range its lowest one is told.
func (y *eye) downFrom(hi int) api.Range {
	lo := hi - y.number()
	y.refuse(lo < 0, api.ErrRange)
	return api.Range{Lo: lo, Hi: hi}
}

// data behind their length.
func (y *eye) data() []byte {
	n := y.number()
	y.refuse(n > api.MaxData, api.ErrSize)
	return bytes.Clone(y.take(n))
}

// number in as many bytes as its first one tells.
func (y *eye) number() int {
	if y.wrong != api.OK {
		return 0
	}
	n, used, e := varint.Decode(y.left)
	y.left, y.wrong = y.left[used:], e
	return n
}

// word in eight bytes, the highest one first.
func (y *eye) word() uint64 {
	var w uint64
	for _, x := range y.take(8) {
		w = w<<8 | uint64(x)
	}
	return w
}

// take so many bytes, which are still those that are looked at.
func (y *eye) take(n int) []byte {
	y.refuse(n > len(y.left), api.ErrShort)
	if y.wrong != api.OK {
		return nil
	}
	taken := y.left[:n]
	y.left = y.left[n:]
	return taken
}

// refuse what is read, if it is bad, and nothing was wrong ahead of it.
func (y *eye) refuse(bad bool, e api.Errno) {
	if bad && y.wrong == api.OK {
		y.wrong = e
	}
}
