package frame

import (
	"spillway/api"
	"spillway/varint"
)

// pen writes frames that may be.
type pen struct {
	written []byte
}

// frame by its parts, in their order (P4.3).
func (p *pen) frame(f api.Frame) {
	kind, _ := partsOf(f.Kind)
	p.kind(f)
	if kind.has(hasRanges) {
		p.ranges(f.Ranges)
	}
	if kind.has(hasId) {
		p.number(f.Id)
	}
	if kind.has(hasOff) {
		p.number(f.Off)
	}
	switch {
	case kind.has(longCode):
		p.word(uint64(f.Code))
	case kind.has(hasCode):
		p.number(f.Code)
	}
	if kind.has(hasData) {
		p.number(len(f.Data))
		p.written = append(p.written, f.Data...)
	}
}

// kind of a frame.
func (p *pen) kind(f api.Frame) {
	switch {
	case f.Kind != api.Stream:
		p.number(f.Kind)
	case f.Fin:
		p.number(streamEnds)
	default:
		p.number(streamGoesOn)
	}
}

// ranges of an Ack, the highest one first.
func (p *pen) ranges(l []api.Range) {
	p.number(l[0].Hi)
	p.number(len(l) - 1)
	p.number(l[0].Hi - l[0].Lo)
	for i, r := range l[1:] {
		// Ranges of a set are at least one number apart: 2 less lets the least gap be 0.
		p.number(l[i].Lo - r.Hi - 2)
		p.number(r.Hi - r.Lo)
	}
}

// number in as few bytes as it needs; Check holds it within its bounds.
func (p *pen) number(n int) {
	b, _ := varint.Encode(n)
	p.written = append(p.written, b...)
}

// word in eight bytes, the highest one first.
func (p *pen) word(w uint64) {
	for shift := 56; shift >= 0; shift -= 8 {
		p.written = append(p.written, byte(w>>shift))
	}
}
