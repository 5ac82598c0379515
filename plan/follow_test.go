package plan_test

import (
	"testing"

	"limpet/api"
	"limpet/plan"
)

// units are all that the calls tell of a shape, each with its block: the metas, bounds and names, of which none tells, are the chapter's.
func units(s api.Shape) map[unit]int {
	m := map[unit]int{}
	for at := range 2 {
		m[unit{api.UnitMeta, 0, at}] = at
		m[unit{api.UnitBound, 0, at}] = 2 + at
		m[unit{api.UnitNamed, 0, at}] = 4 + at
	}
	for g := range s.Segments {
		m[unit{api.UnitHead, g, 0}] = plan.Head(s, g)
		m[unit{api.UnitFoot, g, 0}] = plan.Foot(s, g)
		for i := range s.Records {
			m[unit{api.UnitRecord, g, i}] = plan.Record(s, plan.First(s, g)+i)
		}
	}
	for area := range 2 {
		m[unit{api.UnitSnap, area, 0}] = plan.Snap(s, area)
		for k := range s.Pieces {
			m[unit{api.UnitPiece, area, k}] = plan.Piece(s, area, k)
		}
	}
	return m
}

// P7.3

func TestNoTwoHaveOneBlockAndEachBlockIsOfSomething(t *testing.T) {
	for _, s := range some() {
		of := make([]int, plan.Blocks(s)) // how many units each block is of
		for u, n := range units(s) {
			if n < 0 || n >= len(of) {
				t.Fatalf("%v: %v in the block %d", s, u, n)
			}
			of[n]++
			lies(t, s, n, u)
		}
		for n, many := range of {
			if many != 1 {
				t.Errorf("%v: the block %d is of %d units", s, n, many)
			}
		}
	}
}

// The segment numbers that lie in one segment have one head and one foot; those that do not have others.
func TestSegmentsOfSegmentNumbers(t *testing.T) {
	for _, s := range some() {
		for _, from := range []int{0, 1, s.Segments, far - 2*s.Segments} {
			for apart := range 2*s.Segments + 1 {
				one := apart%s.Segments == 0
				if (plan.Head(s, from) == plan.Head(s, from+apart)) != one || (plan.Foot(s, from) == plan.Foot(s, from+apart)) != one {
					t.Errorf("%v: the segment numbers %d and %d", s, from, from+apart)
				}
			}
		}
	}
}

func TestIndicesThatAreAMultipleApartHaveOneBlock(t *testing.T) {
	for _, s := range some() {
		round := s.Segments * s.Records
		for _, from := range []int{1, 2, s.Records, s.Records + 1, round - 1, round, round + 1} {
			for _, times := range []int{1, 2, 3, 1000, 1<<20 + 1, (far - from) / round} {
				index := from + times*round
				tells(t, "Record", s, index, plan.Record(s, index), plan.Record(s, from))
			}
		}
	}
}

func TestOtherIndicesHaveOtherBlocks(t *testing.T) {
	for _, s := range some() {
		round := s.Segments * s.Records
		for _, from := range []int{1, s.Records, round - 1, round, round + 1, 1 << 20, far - 3*round} {
			block := plan.Record(s, from)
			for apart := 1; apart <= 3*round; apart++ {
				if one := plan.Record(s, from+apart) == block; one != (apart%round == 0) {
					t.Errorf("%v: the indices %d and %d", s, from, from+apart)
				}
			}
		}
	}
}

// All pairs of a round, wherever it begins.
func TestARoundHasEachRecordOnce(t *testing.T) {
	for _, s := range some() {
		round := s.Segments * s.Records
		for _, from := range []int{1, 2, s.Records, round, round + 1, 12345, far - round + 1} {
			seen := map[int]int{}
			for index := from; index < from+round; index++ {
				n := plan.Record(s, index)
				if other := seen[n]; other > 0 {
					t.Errorf("%v: the indices %d and %d have the block %d", s, other, index, n)
				}
				seen[n] = index
				if k, _, _ := plan.What(s, n); k != api.UnitRecord {
					t.Errorf("%v: the record of %d in a block of the Kind %d", s, index, k)
				}
			}
		}
	}
}
