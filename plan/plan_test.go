package plan_test

import (
	"math"
	"testing"

	"limpet/api"
	"limpet/plan"
)

const far = 1 << 40

// Numbers of a shape, at the edges of what they may be.
var (
	rightSegments = []int{2, 3, 4, 9, 15, 16}
	wrongSegments = []int{math.MinInt, -far, -16, -2, -1, 0, 1, 17, 18, 32, 256 + 2, far, 1<<32 + 2, math.MaxInt}
	rightRecords  = []int{1, 2, 3, 17, 31, 32}
	wrongRecords  = []int{math.MinInt, -far, -32, -1, 0, 33, 34, 64, 256 + 1, far, 1<<32 + 1, math.MaxInt}
	rightPieces   = []int{1, 2, 3, 25, 47, 48}
	wrongPieces   = []int{math.MinInt, -far, -48, -1, 0, 49, 50, 96, 256 + 1, far, 1<<32 + 1, math.MaxInt}
)

var (
	small  = api.Shape{Segments: 2, Records: 1, Pieces: 1}
	given  = api.Shape{Segments: 2, Records: 3, Pieces: 2}
	middle = api.Shape{Segments: 7, Records: 5, Pieces: 11}
	large  = api.Shape{Segments: 16, Records: 32, Pieces: 48}
)

// some are shapes that are right: small ones, the greatest one, and such between.
func some() []api.Shape {
	l := []api.Shape{small, given, middle, large}
	for _, n := range rightSegments {
		l = append(l, api.Shape{Segments: n, Records: 1, Pieces: 48}, api.Shape{Segments: n, Records: 32, Pieces: 1})
	}
	for _, n := range rightRecords {
		l = append(l, api.Shape{Segments: 2, Records: n, Pieces: 48}, api.Shape{Segments: 16, Records: n, Pieces: 1})
	}
	for _, n := range rightPieces {
		l = append(l, api.Shape{Segments: 2, Records: 32, Pieces: n}, api.Shape{Segments: 16, Records: 1, Pieces: n})
	}
	return l
}

// shapes are all there are of these numbers.
func shapes(segments, records, pieces []int) []api.Shape {
	var l []api.Shape
	for _, a := range segments {
		for _, b := range records {
			for _, c := range pieces {
				l = append(l, api.Shape{Segments: a, Records: b, Pieces: c})
			}
		}
	}
	return l
}

// wrong are shapes of which one number may not be, or two, or all.
func wrong() []api.Shape {
	l := []api.Shape{{}, {Segments: 2}, {Records: 1}, {Pieces: 1}}
	l = append(l, shapes(wrongSegments, rightRecords, rightPieces)...)
	l = append(l, shapes(rightSegments, wrongRecords, rightPieces)...)
	l = append(l, shapes(rightSegments, rightRecords, wrongPieces)...)
	l = append(l, shapes(wrongSegments, wrongRecords, rightPieces)...)
	l = append(l, shapes(wrongSegments, rightRecords, wrongPieces)...)
	l = append(l, shapes(rightSegments, wrongRecords, wrongPieces)...)
	return append(l, shapes(wrongSegments, wrongRecords, wrongPieces)...)
}

// tells tests a number that a call told.
func tells(t *testing.T, call string, s api.Shape, n, got, want int) {
	t.Helper()
	if got != want {
		t.Errorf("%s(%v, %d): %d, not %d", call, s, n, got, want)
	}
}

// lies tests what lies in a block.
func lies(t *testing.T, s api.Shape, block int, want unit) {
	t.Helper()
	k, slot, at := plan.What(s, block)
	if got := (unit{k, slot, at}); got != want {
		t.Errorf("What(%v, %d): %v, not %v", s, block, got, want)
	}
}

func TestTheExample(t *testing.T) {
	tells(t, "Blocks", given, 0, plan.Blocks(given), 22)
	tells(t, "Record", given, 1, plan.Record(given, 1), 7)
	tells(t, "Head", given, 0, plan.Head(given, plan.Segment(given, 1)), 6)
	tells(t, "Foot", given, 0, plan.Foot(given, plan.Segment(given, 1)), 10)
	tells(t, "Record", given, 4, plan.Record(given, 4), 12)
	tells(t, "Record", given, 7, plan.Record(given, 7), 7)
	tells(t, "Snap", given, 1, plan.Snap(given, 1), 19)
}

// P7.1

func TestShapesThatAreRight(t *testing.T) {
	for _, s := range shapes(rightSegments, rightRecords, rightPieces) {
		if !plan.Right(s) {
			t.Errorf("%v is not right", s)
		}
	}
	for _, s := range wrong() {
		if plan.Right(s) {
			t.Errorf("%v is right", s)
		}
	}
}

func TestHowManyBlocks(t *testing.T) {
	for s, want := range map[api.Shape]int{
		small:                                 16,
		given:                                 22,
		middle:                                79,
		large:                                 648,
		{Segments: 3, Records: 1, Pieces: 1}:  19,
		{Segments: 2, Records: 2, Pieces: 1}:  18,
		{Segments: 2, Records: 1, Pieces: 2}:  18,
		{Segments: 16, Records: 1, Pieces: 1}: 58,
		{Segments: 2, Records: 32, Pieces: 1}: 78,
		{Segments: 2, Records: 1, Pieces: 48}: 110,
	} {
		tells(t, "Blocks", s, 0, plan.Blocks(s), want)
	}
}

func TestSegmentNumbers(t *testing.T) {
	for _, c := range []struct {
		records, index, segment, first int
	}{
		{1, 1, 0, 1}, {1, 2, 1, 2}, {1, 3, 2, 3}, {1, far, far - 1, far},
		{2, 1, 0, 1}, {2, 2, 0, 1}, {2, 3, 1, 3}, {2, 4, 1, 3}, {2, far, far/2 - 1, far - 1},
		{3, 1, 0, 1}, {3, 3, 0, 1}, {3, 4, 1, 4}, {3, 6, 1, 4}, {3, 7, 2, 7}, {3, far, (far - 1) / 3, far},
		{32, 1, 0, 1}, {32, 32, 0, 1}, {32, 33, 1, 33}, {32, 512, 15, 481}, {32, 513, 16, 513}, {32, far, far/32 - 1, far - 31},
	} {
		for _, segments := range rightSegments {
			s := api.Shape{Segments: segments, Records: c.records, Pieces: 1}
			tells(t, "Segment", s, c.index, plan.Segment(s, c.index), c.segment)
			tells(t, "First", s, c.segment, plan.First(s, c.segment), c.first)
		}
	}
}

// What is asked of First is the segment number alone: the index may be above MaxNum.
func TestFirstOfTheGreatestSegmentNumbers(t *testing.T) {
	for _, s := range some() {
		for _, g := range []int{far - 1, far} {
			want := 1
			for range s.Records {
				want += g
			}
			tells(t, "First", s, g, plan.First(s, g), want)
		}
	}
}

func TestIndicesThatAreNone(t *testing.T) {
	for _, s := range some() {
		for _, index := range []int{math.MinInt, math.MinInt + 1, -far, -s.Segments * s.Records, -s.Records, -2, -1, 0, far + 1, far + 2, 2 * far, math.MaxInt - 1, math.MaxInt} {
			tells(t, "Segment", s, index, plan.Segment(s, index), -1)
			tells(t, "Record", s, index, plan.Record(s, index), -1)
		}
		for _, index := range []int{1, far} {
			if plan.Segment(s, index) < 0 || plan.Record(s, index) < 0 {
				t.Errorf("%v: none of the index %d", s, index)
			}
		}
	}
}

func TestSegmentNumbersThatAreNone(t *testing.T) {
	for _, s := range some() {
		for _, g := range []int{math.MinInt, math.MinInt + 1, -far, -s.Segments, -2, -1, far + 1, far + 2, 2 * far, math.MaxInt - 1, math.MaxInt} {
			tells(t, "First", s, g, plan.First(s, g), -1)
			tells(t, "Head", s, g, plan.Head(s, g), -1)
			tells(t, "Foot", s, g, plan.Foot(s, g), -1)
		}
		for _, g := range []int{0, s.Segments - 1, s.Segments, far} {
			if plan.First(s, g) < 0 || plan.Head(s, g) < 0 || plan.Foot(s, g) < 0 {
				t.Errorf("%v: none of the segment number %d", s, g)
			}
		}
	}
}

// P7.2

func TestAreasAndPiecesThatAreNone(t *testing.T) {
	for _, s := range some() {
		for _, area := range []int{math.MinInt, -far, -2, -1, 2, 3, s.Pieces + 2, 1 << 32, 1<<32 + 1, far, math.MaxInt - 1, math.MaxInt} {
			tells(t, "Snap", s, area, plan.Snap(s, area), -1)
			for _, k := range []int{-1, 0, s.Pieces - 1, s.Pieces} {
				tells(t, "Piece of the area", s, area, plan.Piece(s, area, k), -1)
			}
		}
		for _, k := range []int{math.MinInt, -far, -s.Pieces, -2, -1, s.Pieces, s.Pieces + 1, 2 * s.Pieces, 1 << 32, far, math.MaxInt - 1, math.MaxInt} {
			tells(t, "Piece of the area 0", s, k, plan.Piece(s, 0, k), -1)
			tells(t, "Piece of the area 1", s, k, plan.Piece(s, 1, k), -1)
		}
	}
}

func TestBlocksThatAreNone(t *testing.T) {
	for _, s := range some() {
		many := plan.Blocks(s)
		for _, block := range []int{math.MinInt, math.MinInt + 1, -far, -many, -many - 1, -s.Pieces, -s.Records, -6, -2, -1, many, many + 1, many + s.Records, many + s.Pieces + 1, 2 * many, 4096, 1 << 32, 1<<32 + 7, far, math.MaxInt - 1, math.MaxInt} {
			lies(t, s, block, unit{})
		}
	}
}

// Each call, of shapes that are not right.

func TestShapesThatAreNotRight(t *testing.T) {
	numbers := []int{math.MinInt, -1, 0, 1, 2, 7, far, far + 1, math.MaxInt}
	for _, s := range wrong() {
		tells(t, "Blocks", s, 0, plan.Blocks(s), 0)
		for _, n := range numbers {
			tells(t, "Segment", s, n, plan.Segment(s, n), -1)
			tells(t, "First", s, n, plan.First(s, n), -1)
			tells(t, "Record", s, n, plan.Record(s, n), -1)
			tells(t, "Head", s, n, plan.Head(s, n), -1)
			tells(t, "Foot", s, n, plan.Foot(s, n), -1)
			tells(t, "Snap", s, n, plan.Snap(s, n), -1)
			tells(t, "Piece of the area 0", s, n, plan.Piece(s, 0, n), -1)
			tells(t, "Piece of the area 1", s, n, plan.Piece(s, 1, n), -1)
			tells(t, "Piece 0 of the area", s, n, plan.Piece(s, n, 0), -1)
			lies(t, s, n, unit{})
		}
	}
}
