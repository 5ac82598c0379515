package plan_test

import (
	"testing"

	"limpet/api"
	"limpet/plan"
)

// unit is what lies in a block.
type unit struct {
	kind     api.UnitKind
	slot, at int
}

// laid is the chapter told a second time: what a disk has by a right shape, one behind the other, from block 0 on.
func laid(s api.Shape) []unit {
	l := []unit{{1, 0, 0}, {1, 0, 1}, {2, 0, 0}, {2, 0, 1}, {3, 0, 0}, {3, 0, 1}}
	for segment := range s.Segments {
		l = append(l, unit{4, segment, 0})
		for record := range s.Records {
			l = append(l, unit{5, segment, record})
		}
		l = append(l, unit{6, segment, 0})
	}
	for area := range 2 {
		l = append(l, unit{8, area, 0})
		for piece := range s.Pieces {
			l = append(l, unit{7, area, piece})
		}
	}
	return l
}

// all calls do with each shape that is right, up to the first one of which something is told wrong: the others would tell the same many times.
func all(t *testing.T, do func(s api.Shape)) {
	t.Helper()
	for segments := 2; segments <= 16; segments++ {
		for records := 1; records <= 32; records++ {
			for pieces := 1; pieces <= 48 && !t.Failed(); pieces++ {
				do(api.Shape{Segments: segments, Records: records, Pieces: pieces})
			}
		}
	}
}

// has tests that a block, which a call told, is that of a unit.
func has(t *testing.T, call string, s api.Shape, l []unit, n, block int, want unit) {
	t.Helper()
	if block < 0 || block >= len(l) || l[block] != want {
		t.Errorf("%s(%v, %d): the block %d, which is not that of %v", call, s, n, block, want)
	}
}

func TestEachBlockOfEachShape(t *testing.T) {
	all(t, func(s api.Shape) {
		l := laid(s)
		tells(t, "Blocks", s, 0, plan.Blocks(s), len(l))
		for block, u := range l {
			lies(t, s, block, u)
		}
		lies(t, s, -1, unit{})
		lies(t, s, len(l), unit{})
	})
}

func TestEachPieceOfEachShape(t *testing.T) {
	all(t, func(s api.Shape) {
		l := laid(s)
		for area := range 2 {
			has(t, "Snap", s, l, area, plan.Snap(s, area), unit{8, area, 0})
			for k := range s.Pieces {
				has(t, "Piece", s, l, k, plan.Piece(s, area, k), unit{7, area, k})
			}
		}
	})
}

// Index by index, from 1 on: a record behind the other, a segment behind the other, round and round.
func TestEachIndexOfEachShape(t *testing.T) {
	all(t, func(s api.Shape) {
		l := laid(s)
		index := 1
		for g := range 2*s.Segments + 1 {
			segment := g
			for segment >= s.Segments {
				segment -= s.Segments
			}
			tells(t, "First", s, g, plan.First(s, g), index)
			has(t, "Head", s, l, g, plan.Head(s, g), unit{4, segment, 0})
			has(t, "Foot", s, l, g, plan.Foot(s, g), unit{6, segment, 0})
			for record := range s.Records {
				tells(t, "Segment", s, index, plan.Segment(s, index), g)
				has(t, "Record", s, l, index, plan.Record(s, index), unit{5, segment, record})
				index++
			}
		}
	})
}

// farNumbers are up to MaxNum: at its end, about the ends of rounds and segments, and some between.
func farNumbers(s api.Shape) []int {
	round := s.Segments * s.Records
	l := []int{far, far - 1, far - s.Records, far - round, far / 2, 1 << 31, 1 << 32}
	for _, around := range []int{far / round * round, far / s.Records * s.Records, far / s.Segments * s.Segments, 1 << 20 * round} {
		for n := around - 2; n <= min(around+2, far); n++ {
			l = append(l, n)
		}
	}
	for n := 1; n <= far; n = 2*n + s.Records {
		l = append(l, n)
	}
	return l
}

func TestFarIndices(t *testing.T) {
	for _, s := range some() {
		l := laid(s)
		for _, index := range farNumbers(s) {
			g, record := (index-1)/s.Records, (index-1)%s.Records
			tells(t, "Segment", s, index, plan.Segment(s, index), g)
			tells(t, "First", s, g, plan.First(s, g), index-record)
			has(t, "Record", s, l, index, plan.Record(s, index), unit{5, g % s.Segments, record})
		}
	}
}

func TestFarSegmentNumbers(t *testing.T) {
	for _, s := range some() {
		l := laid(s)
		for _, g := range farNumbers(s) {
			has(t, "Head", s, l, g, plan.Head(s, g), unit{4, g % s.Segments, 0})
			has(t, "Foot", s, l, g, plan.Foot(s, g), unit{6, g % s.Segments, 0})
			tells(t, "First", s, g, plan.First(s, g), g*s.Records+1)
		}
	}
}
