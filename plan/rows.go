package plan

import (
	"limpet/api"
)

const (
	copies = 2 // of a meta, a bound, a name
	areas  = 2
)

// kinds are those of the units that a disk has.
func kinds() [8]api.UnitKind {
	return [...]api.UnitKind{
		api.UnitMeta, api.UnitBound, api.UnitNamed,
		api.UnitHead, api.UnitRecord, api.UnitFoot,
		api.UnitSnap, api.UnitPiece,
	}
}

// rows are how the units of a kind lie: in so many rows, from the first one's block on, each so many steps behind the one ahead, and of so many units.
type rows struct{ first, many, step, units int }

// rowsOf are a kind's, by a right shape.
func rowsOf(s api.Shape, k api.UnitKind) rows {
	r := rows{first: first(s, k), many: 1, units: 1}
	switch k {
	case api.UnitRecord:
		r.units = s.Records
		fallthrough
	case api.UnitHead, api.UnitFoot:
		r.many, r.step = s.Segments, segmentBlocks(s)
	case api.UnitPiece:
		r.units = s.Pieces
		fallthrough
	case api.UnitSnap:
		r.many, r.step = areas, areaBlocks(s)
	default:
		r.step, r.units = copies, copies
	}
	return r
}

// first is the block of a kind's first unit, by a right shape: a kind lies behind all that the kinds below it in the switch lie behind.
func first(s api.Shape, k api.UnitKind) int {
	n := 0
	switch k {
	case api.UnitPiece:
		n++ // the first area's snapshot
		fallthrough
	case api.UnitSnap:
		n += 1 + (s.Segments-1)*segmentBlocks(s) // the first segment's foot, and the other segments
		fallthrough
	case api.UnitFoot:
		n += s.Records
		fallthrough
	case api.UnitRecord:
		n++ // the first segment's head
		fallthrough
	case api.UnitHead:
		n += copies // of the name
		fallthrough
	case api.UnitNamed:
		n += copies // of the bound
		fallthrough
	case api.UnitBound:
		n += copies // of the meta
	}
	return n
}

// segmentBlocks is how many a segment has: a head, its records, a foot.
func segmentBlocks(s api.Shape) int { return 1 + s.Records + 1 }

// areaBlocks is how many an area has: a snapshot, its pieces.
func areaBlocks(s api.Shape) int { return 1 + s.Pieces }

// inSegment is the block of a unit of the segment in which a segment number lies.
func inSegment(s api.Shape, k api.UnitKind, g, at int) int {
	if First(s, g) == none {
		return none
	}
	return rowsOf(s, k).block(g%s.Segments, at)
}

// inArea is the block of a unit of an area.
func inArea(s api.Shape, k api.UnitKind, area, at int) int {
	if !Right(s) {
		return none
	}
	return rowsOf(s, k).block(area, at)
}

// has says whether there is such a row, and such a unit of it.
func (r rows) has(row, at int) bool {
	return within(part{row, 0, r.many - 1}, part{at, 0, r.units - 1})
}

// block is that of a unit of a row.
func (r rows) block(row, at int) int {
	if !r.has(row, at) {
		return none
	}
	return r.first + row*r.step + at
}

// place is in which row a block would lie, and as which unit, if rows and units went on without end: ahead of the first block one of both is below 0, or the row too great where numbers wrap.
func (r rows) place(block int) (row, at int) {
	n := block - r.first
	return n / r.step, n % r.step
}
