package seg_test

import (
	"bytes"
	"math"
	"slices"
	"testing"

	"limpet/api"
	"limpet/seg"
)

// rightShapes are shapes of which the Records are at their ends, and some between.
func rightShapes() []api.Shape {
	return []api.Shape{
		shape,
		{Segments: 2, Records: 1, Pieces: 1},
		{Segments: 2, Records: 2, Pieces: 48},
		{Segments: 16, Records: 32, Pieces: 48},
		{Segments: 7, Records: 31, Pieces: 5},
	}
}

// wrongShapes are shapes of which a part may not be, but most have 3 Records, as the right one has.
func wrongShapes() []api.Shape {
	var l []api.Shape
	for _, n := range []int{math.MinInt, -1, 0, 1, 17, most, math.MaxInt} {
		l = append(l, api.Shape{Segments: n, Records: 3, Pieces: 1})
	}
	for _, n := range []int{math.MinInt, -1, 0, 33, 49, most, math.MaxInt} {
		l = append(l, api.Shape{Segments: 2, Records: n, Pieces: 1})
	}
	for _, n := range []int{math.MinInt, -1, 0, 49, most, math.MaxInt} {
		l = append(l, api.Shape{Segments: 2, Records: 3, Pieces: n})
	}
	return append(l, api.Shape{})
}

// numbers are segment numbers by a shape at the edges of what has an ident ahead.
func numbers(s api.Shape) []int {
	last := most / s.Records // the number whose first index is just behind the greatest one that an ident can have, or below that
	return []int{0, 1, 2, s.Segments - 1, s.Segments, 255, 256, last - 1, last}
}

// beyond are those ahead of whose first index there can't be an ident.
func beyond(s api.Shape) []int {
	var l []int
	for _, g := range []int{most/s.Records + 1, most - 1, most} {
		if g > most/s.Records && g <= most {
			l = append(l, g)
		}
	}
	return l
}

// P8.2

func TestHeadIsToldAgain(t *testing.T) {
	for _, s := range rightShapes() {
		for _, g := range numbers(s) {
			for _, i := range identsAhead(g*s.Records + 1) {
				tells(t, "Head", heads(t, s, g, i), api.OK)
				tells(t, "Ahead", aheads(t, sealed(t, api.UnitHead, g, headBody(i)), s, g), api.OK)
			}
		}
	}
}

func TestHeadsBody(t *testing.T) {
	u, err := seg.Head(shape, 1<<16, api.Ident{Index: 3 << 16, Term: 0x0102030405, Kind: 3})
	if want := []byte{0, 0, 3, 0, 0, 0, 5, 4, 3, 2, 1, 0, 3}; err != api.OK || u.Kind != 4 || u.Num != 1<<16 || !bytes.Equal(u.Body, want) {
		t.Error(u, err)
	}
	if u, err = seg.Head(shape, 0, api.Ident{}); err != api.OK || u.Kind != 4 || u.Num != 0 || !bytes.Equal(u.Body, make([]byte, 13)) {
		t.Error(u, err)
	}
}

func TestHeadOfWhatIsNoSegment(t *testing.T) {
	none, some := api.Ident{}, api.Ident{Index: 3, Term: 1, Kind: 1}
	whole := sealed(t, api.UnitHead, 1, headBody(some))
	first := sealed(t, api.UnitHead, 0, headBody(none))
	for _, i := range []api.Ident{none, some, {Index: -1, Term: -1}} {
		for _, s := range wrongShapes() {
			for _, g := range []int{-1, 0, 1, most} {
				tells(t, "Head of a shape that is not right", heads(t, s, g, i), api.ErrArg)
			}
		}
		for _, s := range rightShapes() {
			for _, g := range wrongNums {
				tells(t, "Head of a number that may not be", heads(t, s, g, i), api.ErrArg)
			}
		}
	}
	for _, b := range [][]byte{whole, first, nil, turned(whole, 70), sealed(t, api.UnitFoot, 1, headBody(some))} {
		for _, s := range wrongShapes() {
			tells(t, "Ahead of a shape that is not right", aheads(t, b, s, 1), api.ErrArg)
			tells(t, "Ahead of a shape that is not right", aheads(t, b, s, 0), api.ErrArg)
		}
		for _, g := range wrongNums {
			tells(t, "Ahead of a number that may not be", aheads(t, b, shape, g), api.ErrArg)
		}
	}
}

func TestHeadBehindAnIdentThatIsNotAhead(t *testing.T) {
	for _, s := range rightShapes() {
		for _, g := range numbers(s) {
			for _, i := range identsAstray(g*s.Records + 1) {
				tells(t, "Head", heads(t, s, g, i), api.ErrOrder)
			}
		}
	}
}

// There are segment numbers ahead of whose first index there is no ident that is right.
func TestHeadBeyondAllIdents(t *testing.T) {
	for _, s := range rightShapes() {
		for _, g := range beyond(s) {
			for _, i := range []api.Ident{{}, {Index: most, Kind: 1}, {Index: g * s.Records, Kind: 1}, {Index: g*s.Records + 1, Term: 1, Kind: 1}} {
				tells(t, "Head", heads(t, s, g, i), api.ErrOrder)
			}
			body := append(field(6, g*s.Records), 0, 0, 0, 0, 0, 0, 1)
			tells(t, "Ahead", aheads(t, sealed(t, api.UnitHead, g, body), s, g), api.ErrShape)
		}
	}
}

func TestAheadOfBlocksThatAreNone(t *testing.T) {
	body := headBody(api.Ident{Index: 3, Term: 300, Kind: 2})
	whole := sealed(t, api.UnitHead, 1, body)
	spoilt(whole, func(b []byte, e api.Errno) {
		tells(t, "Ahead of what is no unit", aheads(t, b, shape, 1), e)
	})
	others(t, api.UnitHead, 1, body, func(b []byte) {
		tells(t, "Ahead of a unit of another Kind", aheads(t, b, shape, 1), api.ErrKind)
	})
	for _, g := range []int{0, 2, 257, most} {
		tells(t, "Ahead of another number", aheads(t, whole, shape, g), api.ErrKind)
		tells(t, "Ahead of another number's", aheads(t, sealed(t, api.UnitHead, g, body), shape, 1), api.ErrKind)
	}
}

func TestAheadOfBodiesOfEachLength(t *testing.T) {
	for _, g := range []int{0, 1} {
		body := make([]byte, 239)
		copy(body, headBody(identsAhead(3*g + 1)[0]))
		for long := range 240 {
			want := api.OK
			if long != 13 {
				want = api.ErrShape
			}
			tells(t, "Ahead", aheads(t, sealed(t, api.UnitHead, g, body[:long]), shape, g), want)
		}
	}
}

func TestAheadOfIdentsThatAreNotAhead(t *testing.T) {
	for _, wrong := range wrongTermKinds() {
		tells(t, "Ahead", aheads(t, sealed(t, api.UnitHead, 1, append([]byte{3, 0, 0, 0, 0, 0}, wrong...)), shape, 1), api.ErrShape)
		if !bytes.Equal(wrong, make([]byte, 7)) {
			tells(t, "Ahead", aheads(t, sealed(t, api.UnitHead, 0, append(make([]byte, 6), wrong...)), shape, 0), api.ErrShape)
		}
	}
	for _, index := range []int{0, 1, 2, 4, 5, 6, 259, most, most + 3, 1<<48 - 1} {
		for _, kind := range []byte{0, 1} {
			b := sealed(t, api.UnitHead, 1, append(field(6, index), 0, 0, 0, 0, 0, 0, kind))
			tells(t, "Ahead of the ident of another index", aheads(t, b, shape, 1), api.ErrShape)
		}
	}
	for _, b := range [][]byte{{0, 0, 0, 0, 0, 0, 0, 0, 0, 0, 0, 0, 1}, {0, 0, 0, 0, 0, 0, 1, 0, 0, 0, 0, 0, 0}, {1, 0, 0, 0, 0, 0, 0, 0, 0, 0, 0, 0, 1}} {
		tells(t, "Ahead of the first one, with something", aheads(t, sealed(t, api.UnitHead, 0, b), shape, 0), api.ErrShape)
	}
}

// A shape's Records say which index is the first one: so of another shape another ident is ahead.
func TestAheadByAnotherShape(t *testing.T) {
	b := sealed(t, api.UnitHead, 2, headBody(api.Ident{Index: 6, Term: 1, Kind: 1}))
	for many := 1; many <= 32; many++ {
		want := api.ErrShape
		if many == 3 {
			want = api.OK
		}
		tells(t, "Ahead", aheads(t, b, api.Shape{Segments: 9, Records: many, Pieces: 9}, 2), want)
	}
}

func TestHeadLiesApart(t *testing.T) {
	u, _ := seg.Head(shape, 1, api.Ident{Index: 3, Term: 1, Kind: 1})
	b := sealed(t, u.Kind, u.Num, u.Body)
	was := bytes.Clone(b)
	clear(u.Body)
	tells(t, "Ahead", aheads(t, b, shape, 1), api.OK)
	if !bytes.Equal(b, was) {
		t.Error("Ahead changed its block")
	}
	tells(t, "Head", heads(t, shape, 1, api.Ident{Index: 3, Term: 1, Kind: 1}), api.OK)
}

// chain is the entries of a segment number, and the ident ahead of the first one.
type chain struct {
	ahead   api.Ident
	entries []api.Entry
}

// chained are entries of so many indices from one on, unlike each other.
func chained(first, many int) chain {
	c := chain{ahead: identsAhead(first)[0]}
	for i := range many {
		c.entries = append(c.entries, api.Entry{Index: first + i, Term: 300 + i/2, Kind: rightKinds[i%3], Body: text(i * 7 % 201)})
	}
	return c
}

// blocks are those of the entries' records.
func (c chain) blocks(t *testing.T) [][]byte {
	t.Helper()
	var l [][]byte
	ahead := c.ahead
	for _, e := range c.entries {
		l = append(l, sealed(t, api.UnitRecord, e.Index, recordBody(ahead, e)))
		ahead = identOf(e)
	}
	return l
}

// last is the last entry's ident.
func (c chain) last() api.Ident { return identOf(c.entries[len(c.entries)-1]) }

// foot is the block of the foot of a segment number behind these.
func (c chain) foot(t *testing.T, g int) []byte {
	t.Helper()
	return sealed(t, api.UnitFoot, g, footBody(c.last(), c.blocks(t)...))
}

// P8.3

func TestFootFits(t *testing.T) {
	for _, s := range rightShapes() {
		for _, g := range []int{0, 1, 2, s.Segments, 255, most/s.Records - 1} {
			c := chained(g*s.Records+1, s.Records)
			tells(t, "Foot", feet(t, s, g, c.blocks(t)...), api.OK)
			tells(t, "Shut", shuts(t, c.foot(t, g), s, g, c.blocks(t)...), api.OK)
		}
	}
}

func TestFootsBody(t *testing.T) {
	c := chained(1, 3)
	u, err := seg.Foot(shape, 0, c.blocks(t)...)
	if err != api.OK || u.Kind != 6 || u.Num != 0 || len(u.Body) != 11 || !bytes.Equal(u.Body[4:], []byte{45, 1, 0, 0, 0, 0, 3}) {
		t.Error(u, err)
	}
}

// The ident ahead of the first one is asked to be right, but none is told of which it should be.
func TestFootBehindAnyIdent(t *testing.T) {
	for _, ahead := range identsAhead(4) {
		c := chained(4, 3)
		c.ahead = ahead
		tells(t, "Foot", feet(t, shape, 1, c.blocks(t)...), api.OK)
		tells(t, "Shut", shuts(t, c.foot(t, 1), shape, 1, c.blocks(t)...), api.OK)
	}
}

func TestFootOfWhatIsNoSegment(t *testing.T) {
	c := chained(4, 3)
	foot := c.foot(t, 1)
	for _, blocks := range [][][]byte{c.blocks(t), {nil, nil, nil}, {}, {foot}} {
		for _, s := range wrongShapes() {
			for _, g := range []int{-1, 0, 1, most} {
				tells(t, "Foot of a shape that is not right", feet(t, s, g, blocks...), api.ErrArg)
				tells(t, "Shut of a shape that is not right", shuts(t, foot, s, g, blocks...), api.ErrArg)
				tells(t, "Shut of a shape that is not right, and no block", shuts(t, nil, s, g, blocks...), api.ErrArg)
			}
		}
		for _, g := range wrongNums {
			tells(t, "Foot of a number that may not be", feet(t, shape, g, blocks...), api.ErrArg)
			tells(t, "Shut of a number that may not be", shuts(t, foot, shape, g, blocks...), api.ErrArg)
		}
	}
}

func TestFootOfAnotherNumberOfRecords(t *testing.T) {
	for _, s := range rightShapes() {
		first := s.Records + 1
		l := chained(first, s.Records+2).blocks(t)
		for many := range len(l) + 1 {
			want := api.ErrArg
			if many == s.Records {
				want = api.OK
			}
			tells(t, "Foot", feet(t, s, 1, l[:many]...), want)
			foot := chained(first, max(1, many)).foot(t, 1)
			tells(t, "Shut", shuts(t, foot, s, 1, l[:many]...), want)
			tells(t, "Foot of none that are blocks", feet(t, s, 1, make([][]byte, s.Records+1)...), api.ErrArg)
		}
		tells(t, "Foot", feet(t, s, 1), api.ErrArg)
		tells(t, "Shut", shuts(t, chained(first, s.Records).foot(t, 1), s, 1), api.ErrArg)
	}
}

// No records lie at indices that are above the greatest one, whatever stands there.
func TestFootBeyondAllEntries(t *testing.T) {
	for _, s := range rightShapes() {
		for _, g := range append(beyond(s), most/s.Records) {
			first := g*s.Records + 1
			l := slices.Repeat([][]byte{sealed(t, api.UnitRecord, most, text(20))}, s.Records)
			copy(l, chained(first, max(0, most+1-first)).blocks(t))
			tells(t, "Foot", feet(t, s, g, l...), api.ErrKind)
			tells(t, "Shut", shuts(t, nil, s, g, l...), api.ErrKind)
		}
	}
}

func TestFootOfDamagedRecords(t *testing.T) {
	whole := chained(4, 3).blocks(t)
	foot := chained(4, 3).foot(t, 1)
	for i := range whole {
		put := func(b []byte) [][]byte {
			l := slices.Clone(whole)
			l[i] = b
			return l
		}
		spoilt(whole[i], func(b []byte, e api.Errno) {
			tells(t, "Foot of what is no unit", feet(t, shape, 1, put(b)...), e)
			tells(t, "Shut of what is no unit", shuts(t, foot, shape, 1, put(b)...), e)
		})
		others(t, api.UnitRecord, 4+i, text(20), func(b []byte) {
			tells(t, "Foot of a unit of another Kind", feet(t, shape, 1, put(b)...), api.ErrKind)
		})
		for _, body := range [][]byte{nil, text(13), make([]byte, 14), text(215)} {
			b := sealed(t, api.UnitRecord, 4+i, body)
			tells(t, "Foot of no record", feet(t, shape, 1, put(b)...), api.ErrShape)
			tells(t, "Shut of no record", shuts(t, nil, shape, 1, put(b)...), api.ErrShape)
		}
		for j := range whole {
			if j != i {
				tells(t, "Foot of another index", feet(t, shape, 1, put(whole[j])...), api.ErrKind)
			}
		}
	}
}

func TestFootOfRecordsTurnedAgainstEachOther(t *testing.T) {
	l := chained(4, 3).blocks(t)
	foot := chained(4, 3).foot(t, 1)
	for _, order := range [][3]int{{0, 2, 1}, {1, 0, 2}, {1, 2, 0}, {2, 0, 1}, {2, 1, 0}, {0, 0, 0}, {2, 2, 2}} {
		blocks := [][]byte{l[order[0]], l[order[1]], l[order[2]]}
		tells(t, "Foot", feet(t, shape, 1, blocks...), api.ErrKind)
		tells(t, "Shut", shuts(t, foot, shape, 1, blocks...), api.ErrKind)
	}
	for _, g := range []int{0, 2} {
		tells(t, "Foot of another number's records", feet(t, shape, g, l...), api.ErrKind)
		tells(t, "Shut of another number's records", shuts(t, foot, shape, g, l...), api.ErrKind)
	}
}

// astray is a chain whose record at a place has an ident ahead that is not that of the record ahead.
func astray(t *testing.T, at int, by func(i *api.Ident)) [][]byte {
	t.Helper()
	c := chained(4, 3)
	l := c.blocks(t)
	ahead := identOf(c.entries[at-1])
	by(&ahead)
	l[at] = sealed(t, api.UnitRecord, 4+at, recordBody(ahead, c.entries[at]))
	return l
}

func TestFootOfRecordsThatDoNotFollow(t *testing.T) {
	foot := chained(4, 3).foot(t, 1)
	for at := 1; at <= 2; at++ {
		for what, by := range map[string]func(i *api.Ident){
			"one Term more":     func(i *api.Ident) { i.Term++ },
			"one Term fewer":    func(i *api.Ident) { i.Term-- },
			"the greatest Term": func(i *api.Ident) { i.Term = most },
			"another Kind":      func(i *api.Ident) { i.Kind = i.Kind%3 + 1 },
			"the third Kind":    func(i *api.Ident) { i.Kind = (i.Kind+1)%3 + 1 },
		} {
			l := astray(t, at, by)
			tells(t, what, feet(t, shape, 1, l...), api.ErrOrder)
			tells(t, what, shuts(t, foot, shape, 1, l...), api.ErrOrder)
			tells(t, what, shuts(t, nil, shape, 1, l...), api.ErrOrder)
		}
	}
}

// All records are asked ahead of how they follow, the first ones first.
func TestFootsFirstError(t *testing.T) {
	whole := chained(4, 3).blocks(t)
	hurt, other, none := turned(whole[0], 70), sealed(t, 4, 5, nil), sealed(t, 5, 6, nil)
	tells(t, "a sum first", feet(t, shape, 1, hurt, other, none), api.ErrSum)
	tells(t, "a Kind first", feet(t, shape, 1, whole[0], other, hurt), api.ErrKind)
	tells(t, "a shape first", feet(t, shape, 1, nil, hurt, other), api.ErrShape)
	l := astray(t, 1, func(i *api.Ident) { i.Term++ })
	for e, b := range map[api.Errno][]byte{api.ErrSum: turned(whole[2], 70), api.ErrKind: other, api.ErrShape: none} {
		l[2] = b
		tells(t, "a record behind that does not follow", feet(t, shape, 1, l...), e)
		tells(t, "a record behind that does not follow", shuts(t, hurt, shape, 1, l...), e)
	}
}

func TestShutOfBlocksThatAreNone(t *testing.T) {
	c := chained(4, 3)
	l := c.blocks(t)
	foot := c.foot(t, 1)
	spoilt(foot, func(b []byte, e api.Errno) {
		tells(t, "Shut of what is no unit", shuts(t, b, shape, 1, l...), e)
	})
	body := footBody(c.last(), l...)
	others(t, api.UnitFoot, 1, body, func(b []byte) {
		tells(t, "Shut of a unit of another Kind", shuts(t, b, shape, 1, l...), api.ErrKind)
	})
	for _, g := range []int{0, 2, 257, most} {
		tells(t, "Shut of another number's", shuts(t, c.foot(t, g), shape, 1, l...), api.ErrKind)
	}
	for _, b := range l {
		tells(t, "Shut of a record", shuts(t, b, shape, 1, l...), api.ErrKind)
	}
}

func TestShutOfAnotherBody(t *testing.T) {
	c := chained(4, 3)
	l := c.blocks(t)
	body := footBody(c.last(), l...)
	for bit := range 8 * len(body) {
		b := sealed(t, api.UnitFoot, 1, turned(body, bit))
		tells(t, "Shut of a bit of another body", shuts(t, b, shape, 1, l...), api.ErrSum)
	}
	for long := range 240 {
		want := api.ErrSum
		if long == len(body) {
			want = api.OK
		}
		b := sealed(t, api.UnitFoot, 1, append(body[:min(long, 11):11], make([]byte, max(0, long-11))...))
		tells(t, "Shut of a shorter body, a longer one", shuts(t, b, shape, 1, l...), want)
	}
}

func TestFootLiesApart(t *testing.T) {
	l := chained(4, 3).blocks(t)
	foot := chained(4, 3).foot(t, 1)
	was := slices.Concat(append(l, foot)...)
	u, _ := seg.Foot(shape, 1, l...)
	clear(u.Body)
	shuts(t, foot, shape, 1, l...)
	if !bytes.Equal(slices.Concat(append(l, foot)...), was) {
		t.Error("the blocks are others")
	}
	u, _ = seg.Foot(shape, 1, l...)
	body := bytes.Clone(u.Body)
	for _, b := range l {
		clear(b)
	}
	clear(l)
	if !bytes.Equal(u.Body, body) {
		t.Error("the foot has become another one")
	}
}
