package seg

import (
	"bytes"

	"limpet/api"
	"limpet/mix"
	"limpet/plan"
)

// segment is that of a segment number, by a shape.
type segment struct {
	api.Shape
	number, first int // first is the number's first index, below 0 if there is none
}

func segmentOf(s api.Shape, g int) segment {
	return segment{Shape: s, number: g, first: plan.First(s, g)}
}

// lack is what a unit of a kind needs of the segment, and has not, if so: the blocks are those that it is made of.
func (s segment) lack(k api.UnitKind, blocks ...[]byte) error {
	switch k {
	case api.UnitFoot:
		if len(blocks) != s.Records {
			return errMany
		}
		fallthrough
	case api.UnitHead:
		if s.first < 0 {
			return errSegment
		}
	}
	return nil
}

// head is that behind an ident.
func (s segment) head(ahead api.Ident) api.Unit {
	must(s.number, s.lack(api.UnitHead))
	if !isAhead(ahead, s.first) {
		must(s.number, errOrder)
	}
	var w writer
	w.Field(numWidth, ahead.Index)
	w.idents(ahead)
	return w.unit(api.UnitHead, s.number)
}

// ahead is the ident by which b is the block of the head.
func (s segment) ahead(b []byte) api.Ident {
	must(s.number, s.lack(api.UnitHead))
	r := opened(b, api.UnitHead, s.number)
	i := r.ident(r.Field(numWidth))
	if !r.ended() || !isAhead(i, s.first) {
		must(s.number, errBody)
	}
	return i
}

// records are those whose blocks these are, from the first index on.
func (s segment) records(blocks ...[]byte) []record {
	l := make([]record, len(blocks))
	for i, b := range blocks {
		l[i] = recordOf(b, s.first+i)
	}
	return l
}

// foot is that behind these blocks of records.
func (s segment) foot(blocks ...[]byte) api.Unit {
	must(s.number, s.lack(api.UnitFoot, blocks...))
	l := s.records(blocks...)
	last := l[0]
	for _, r := range l[1:] {
		if r.ahead != last.ident() {
			must(r.Index, errOrder)
		}
		last = r
	}
	var w writer
	w.Field(sumWidth, int(sumOf(blocks...)))
	w.idents(last.ident())
	return w.unit(api.UnitFoot, s.number)
}

// sumOf is the sum of the blocks' sums.
func sumOf(blocks ...[]byte) uint32 {
	sums := make([][]byte, len(blocks))
	for i, b := range blocks {
		sums[i] = b[sumAt:][:sumWidth]
	}
	return mix.Sum(sums...)
}

// shut ends well if b is the block of the foot behind these blocks of records.
func (s segment) shut(b []byte, blocks ...[]byte) {
	foot := s.foot(blocks...)
	if !bytes.Equal(opened(b, api.UnitFoot, s.number).body, foot.Body) {
		must(s.number, errFoot)
	}
}
