package seg_test

import (
	"bytes"
	"math/rand/v2"
	"slices"
	"testing"

	"limpet/api"
	"limpet/seg"
	"limpet/unit"
)

// dice are numbers that look like chance, and are the same each time.
func dice(seed uint64) *rand.Rand { return rand.New(rand.NewPCG(8, seed)) }

// oneOf is one of a list.
func oneOf[T any](roll *rand.Rand, l []T) T { return l[roll.IntN(len(l))] }

func someShape(roll *rand.Rand) api.Shape {
	return api.Shape{Segments: 2 + roll.IntN(15), Records: 1 + roll.IntN(1+roll.IntN(32)), Pieces: 1 + roll.IntN(48)}
}

func someTerm(roll *rand.Rand) int {
	if roll.IntN(2) == 0 {
		return oneOf(roll, rightNums)
	}
	return roll.IntN(most + 1)
}

func someEntry(roll *rand.Rand, index int) api.Entry {
	body := make([]byte, oneOf(roll, append(rightLongs, roll.IntN(201))))
	for i := range body {
		body[i] = byte(roll.IntN(256))
	}
	return api.Entry{Index: index, Term: someTerm(roll), Kind: oneOf(roll, rightKinds), Body: body}
}

func someChain(roll *rand.Rand, first, many int) chain {
	c := chain{ahead: oneOf(roll, identsAhead(first))}
	for i := range many {
		c.entries = append(c.entries, someEntry(roll, first+i))
	}
	return c
}

// recorded are the blocks that the package makes of a chain, each of which tells again what it was made of.
func recorded(t *testing.T, c chain) [][]byte {
	t.Helper()
	var l [][]byte
	ahead := c.ahead
	for _, e := range c.entries {
		u, err := seg.Record(ahead, e)
		tells(t, "Record", err, api.OK)
		b, err := unit.Seal(u)
		tells(t, "Seal", err, api.OK)
		got, i, err := seg.Of(b, e.Index)
		if err != api.OK || !sameEntry(got, e) || i != ahead {
			t.Fatalf("of %v behind %v: %v, %v, %d", e, ahead, got, i, err)
		}
		l = append(l, b)
		ahead = seg.Ident(got)
	}
	return l
}

// P8.4

func TestWhatIsRecordedIsToldAgain(t *testing.T) {
	roll := dice(1)
	for range 1000 {
		s := someShape(roll)
		g := roll.IntN(most / s.Records)
		if roll.IntN(3) == 0 {
			g = roll.IntN(4)
		}
		c := someChain(roll, g*s.Records+1, s.Records)
		l := recorded(t, c)
		head, err := seg.Head(s, g, c.ahead)
		tells(t, "Head", err, api.OK)
		b := sealed(t, head.Kind, head.Num, head.Body)
		if i, err := seg.Ahead(b, s, g); err != api.OK || i != c.ahead {
			t.Fatalf("ahead of %d by %v: %v, %d, not %v", g, s, i, err, c.ahead)
		}
		foot, err := seg.Foot(s, g, l...)
		tells(t, "Foot", err, api.OK)
		tells(t, "Shut", seg.Shut(sealed(t, foot.Kind, foot.Num, foot.Body), s, g, l...), api.OK)
	}
}

func TestUnlikeEntriesHaveUnlikeBlocks(t *testing.T) {
	var entries []api.Entry
	for _, index := range []int{1, 2, 3, 256, most} {
		entries = append(entries, rightEntries(index)...)
		for _, e := range []api.Entry{{Term: 1, Kind: 1}, {Term: 256, Kind: 1}, {Kind: 1}, {Kind: 2}, {Kind: 3}} {
			for _, body := range [][]byte{nil, {0}, {1}, {0, 0}, {1, 0}, {0, 1}, {1, 1}, make([]byte, 6), make([]byte, 7), make([]byte, 200)} {
				e.Index, e.Body = index, body
				entries = append(entries, e)
			}
		}
	}
	of := map[string]api.Entry{}
	for _, e := range entries {
		for _, ahead := range identsAhead(e.Index) {
			b := string(recorded(t, chain{ahead, []api.Entry{e}})[0])
			if other, has := of[b]; has && !sameEntry(other, e) {
				t.Fatalf("%v and %v have one block", other, e)
			}
			of[b] = e
		}
	}
}

// changed is a chain of which one entry is another one.
func changed(roll *rand.Rand, c chain) chain {
	c.entries = slices.Clone(c.entries)
	at := roll.IntN(len(c.entries))
	e := &c.entries[at]
	switch roll.IntN(5) {
	case 0:
		e.Term = (e.Term + 1 + roll.IntN(most)) % (most + 1)
	case 1:
		e.Kind = e.Kind%3 + 1
	case 2:
		if len(e.Body) == 200 {
			e.Body = e.Body[:199]
			break
		}
		e.Body = append(bytes.Clone(e.Body), 0)
	default:
		if len(e.Body) == 0 {
			e.Body = []byte{1}
			break
		}
		e.Body = turned(e.Body, roll.IntN(8*len(e.Body)))
	}
	return c
}

func TestAFootFitsNoOtherRecords(t *testing.T) {
	roll := dice(2)
	for range 1000 {
		s := someShape(roll)
		g := 1 + roll.IntN(9)
		c := someChain(roll, g*s.Records+1, s.Records)
		foot := c.foot(t, g)
		other := changed(roll, c)
		l := recorded(t, other)
		tells(t, "Foot", feet(t, s, g, l...), api.OK)
		tells(t, "Shut of other records", shuts(t, foot, s, g, l...), api.ErrSum)
		ahead := c
		ahead.ahead.Term = (ahead.ahead.Term + 1) % most
		tells(t, "Shut behind another ident", shuts(t, foot, s, g, recorded(t, ahead)...), api.ErrSum)
	}
}

// alike is an entry of another Body, of which the record's block has the same sum: a run of 32 bits of what is summed up can make any sum.
func alike(t *testing.T, ahead api.Ident, e api.Entry) api.Entry {
	t.Helper()
	sumOf := func(body []byte) uint32 {
		e.Body = body
		b := sealed(t, api.UnitRecord, e.Index, recordBody(ahead, e))
		return uint32(number(b[28:32]))
	}
	body := bytes.Clone(e.Body)
	want := sumOf(body)
	body[20] ^= 1
	is := sumOf(body)
	// Of each bit of the run, how the sum is turned by it; by these, each with another highest bit, the rest is made nought.
	type turn struct{ sum, bits uint32 }
	var by [32]turn
	for bit := range 32 {
		x := turn{is ^ sumOf(turned(body, 8*30+bit)), 1 << bit}
		for high := 31; high >= 0 && x.sum != 0; high-- {
			if x.sum>>high&1 == 0 {
				continue
			}
			if by[high].sum == 0 {
				by[high] = x
				break
			}
			x.sum, x.bits = x.sum^by[high].sum, x.bits^by[high].bits
		}
	}
	rest, bits := is^want, uint32(0)
	for high := 31; high >= 0; high-- {
		if rest>>high&1 == 1 {
			rest, bits = rest^by[high].sum, bits^by[high].bits
		}
	}
	for bit := range 32 {
		if bits>>bit&1 == 1 {
			body = turned(body, 8*30+bit)
		}
	}
	if sumOf(body) != want {
		t.Fatal("the sums are not alike")
	}
	e.Body = body
	return e
}

// A foot knows of its records nothing but their sums, and the last one's ident.
func TestAFootFitsRecordsWhoseSumsAreAlike(t *testing.T) {
	c := chained(4, 3)
	for i := range c.entries {
		c.entries[i].Body = text(60 + i)
	}
	foot := c.foot(t, 1)
	ahead := c.ahead
	for i, e := range c.entries {
		other := chain{c.ahead, slices.Clone(c.entries)}
		other.entries[i] = alike(t, ahead, e)
		if sameEntry(other.entries[i], e) {
			t.Fatal("it is the same entry")
		}
		tells(t, "Shut", shuts(t, foot, shape, 1, recorded(t, other)...), api.OK)
		ahead = identOf(e)
	}
}

// Blocks that are whole, and blocks of which something is another thing.
func TestIsWhatTheChapterSays(t *testing.T) {
	roll := dice(3)
	told := map[string]map[api.Errno]int{"Of": {}, "Ahead": {}, "Foot": {}, "Shut": {}}
	for range 12_000 {
		s := someShape(roll)
		if roll.IntN(30) == 0 {
			s = oneOf(roll, wrongShapes())
		}
		g := roll.IntN(3)
		if roll.IntN(30) == 0 {
			g = oneOf(roll, slices.Concat(numbers(shape), wrongNums))
		}
		many := max(0, min(s.Records, 40))
		first := max(1, min(g*s.Records+1, most-40))
		c := someChain(roll, first, many)
		l := c.blocks(t)
		for i := range l {
			if roll.IntN(3*many) == 0 {
				l[i] = stray(t, roll, l[i])
			}
		}
		if many > 0 {
			told["Of"][isOf(t, l[0], first+oneOf(roll, []int{0, 0, 0, 0, 1, -1, -first - 1}))]++
		}
		head := sealed(t, api.UnitHead, max(0, min(g, most)), headBody(c.ahead))
		told["Ahead"][aheads(t, stray(t, roll, head), s, g)]++
		told["Foot"][feet(t, s, g, l...)]++
		foot := head
		if f, err := footSaid(s, g, l...); err == api.OK {
			foot = sealed(t, f.Kind, f.Num, f.Body)
		}
		if roll.IntN(2) == 0 {
			foot = stray(t, roll, foot)
		}
		told["Shut"][shuts(t, foot, s, g, l...)]++
	}
	for call, of := range told {
		for _, e := range []api.Errno{api.OK, api.ErrShape, api.ErrSum, api.ErrKind} {
			if of[e] < 100 {
				t.Errorf("%s told %d %d times: the blocks are not well chosen", call, e, of[e])
			}
		}
	}
	for _, call := range []string{"Ahead", "Foot", "Shut"} {
		if told[call][api.ErrArg] < 100 {
			t.Errorf("%s told ErrArg %d times", call, told[call][api.ErrArg])
		}
	}
	for _, call := range []string{"Foot", "Shut"} {
		if told[call][api.ErrOrder] < 100 {
			t.Errorf("%s told ErrOrder %d times", call, told[call][api.ErrOrder])
		}
	}
}

// stray is a block of which something may be another thing, with a sum that fits, mostly.
func stray(t *testing.T, roll *rand.Rand, b []byte) []byte {
	t.Helper()
	u, err := unit.Open(b)
	tells(t, "Open", err, api.OK)
	switch roll.IntN(9) {
	case 0:
		u.Kind = api.UnitKind(1 + roll.IntN(8))
	case 1:
		u.Num = min(most, max(0, u.Num+roll.IntN(3)-1))
	case 2:
		u.Body = u.Body[:roll.IntN(len(u.Body)+1)]
	case 3:
		u.Body = append(u.Body, make([]byte, roll.IntN(240-len(u.Body)))...)
	case 4, 5:
		u.Body[roll.IntN(min(14, len(u.Body)))] = byte(roll.IntN(5))
	case 6:
		return turned(b, roll.IntN(8*len(b)))
	case 7:
		return b[:roll.IntN(len(b)+1)]
	}
	return sealed(t, u.Kind, u.Num, u.Body)
}
