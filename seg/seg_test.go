package seg_test

import (
	"bytes"
	"math"
	"slices"
	"testing"

	"limpet/api"
	"limpet/seg"
	"limpet/unit"
)

var (
	rightNums  = []int{0, 1, 255, 256, 0x0102030405, most - 1, most}
	wrongNums  = []int{math.MinInt, -most, -256, -1, most + 1, most + 256, 1 << 48, 1<<48 + 1, math.MaxInt}
	rightKinds = []api.EntryKind{api.EntryNone, api.EntryCommand, api.EntryGroup}
	wrongKinds = []api.EntryKind{math.MinInt, -1, 0, 4, 5, 255, 256, 257, 258, math.MaxInt}
	rightLongs = []int{0, 1, 5, 6, 7, 199, 200} // bytes of an entry's Body: 6 more are the last ones that a small unit has room for
	wrongLongs = []int{201, 225, 226, 255, 256, 1000}
	shape      = api.Shape{Segments: 2, Records: 3, Pieces: 1}
)

// text is so many bytes, none of them a nought, unlike those about them.
func text(many int) []byte {
	b := make([]byte, many)
	for i := range b {
		b[i] = byte(i%255 + 1)
	}
	return b
}

// tells sees that a call told what it should.
func tells(t *testing.T, what string, e, want api.Errno) {
	t.Helper()
	if e != want {
		t.Fatalf("%s: told %d, not %d", what, e, want)
	}
}

// sealed is the block of a unit.
func sealed(t *testing.T, k api.UnitKind, num int, body []byte) []byte {
	t.Helper()
	b, e := unit.Seal(api.Unit{Kind: k, Num: num, Body: body})
	if e != api.OK {
		t.Fatal(k, num, body, e)
	}
	return b
}

// turned is a block with a bit turned.
func turned(b []byte, bit int) []byte {
	b = bytes.Clone(b)
	b[bit/8] ^= 1 << (bit % 8)
	return b
}

// identsAhead are those of an index that are right: of 1 there is but one.
func identsAhead(index int) []api.Ident {
	if index == 1 {
		return []api.Ident{{}}
	}
	var l []api.Ident
	for _, term := range rightNums {
		for _, kind := range rightKinds {
			l = append(l, api.Ident{Index: index - 1, Term: term, Kind: kind})
		}
	}
	return l
}

// identsAstray are those of which none is ahead of an index.
func identsAstray(index int) []api.Ident {
	var l []api.Ident
	for _, other := range []int{math.MinInt, -1, index - 3, index - 2, index, index + 1, most, most + 1, math.MaxInt} {
		if other != index-1 {
			l = append(l, api.Ident{Index: other}, api.Ident{Index: other, Term: 1, Kind: 1}, api.Ident{Index: other, Term: most, Kind: 3})
		}
	}
	for _, kind := range wrongKinds {
		l = append(l, api.Ident{Index: index - 1, Term: 1, Kind: kind}, api.Ident{Index: index - 1, Term: most, Kind: kind})
		if kind != 0 || index > 1 {
			l = append(l, api.Ident{Index: index - 1, Kind: kind})
		}
	}
	for _, term := range wrongNums {
		l = append(l, api.Ident{Index: index - 1, Term: term}, api.Ident{Index: index - 1, Term: term, Kind: 1})
	}
	if index == 1 {
		l = append(l, api.Ident{Term: 1}, api.Ident{Kind: 1}, api.Ident{Kind: 2}, api.Ident{Kind: 3}, api.Ident{Term: most, Kind: 3})
	}
	return l
}

// rightEntries are entries of an index at the edges of what is right.
func rightEntries(index int) []api.Entry {
	var l []api.Entry
	for _, long := range rightLongs {
		for _, kind := range rightKinds {
			l = append(l, api.Entry{Index: index, Term: 300, Kind: kind, Body: text(long)})
		}
	}
	for _, term := range rightNums {
		l = append(l, api.Entry{Index: index, Term: term, Kind: 2, Body: []byte("ab")}, api.Entry{Index: index, Term: term, Kind: 1})
	}
	return l
}

// wrongEntries are entries of which a part may not be: most of the Index 9, if that is no part.
func wrongEntries() []api.Entry {
	var l []api.Entry
	for _, n := range wrongNums {
		l = append(l, api.Entry{Index: n, Term: 1, Kind: 1}, api.Entry{Index: 9, Term: n, Kind: 2, Body: text(9)}, api.Entry{Index: n, Term: n, Kind: 3})
	}
	for _, kind := range wrongKinds {
		l = append(l, api.Entry{Index: 9, Term: 1, Kind: kind}, api.Entry{Index: most, Term: most, Kind: kind, Body: text(200)})
	}
	for _, long := range wrongLongs {
		l = append(l, api.Entry{Index: 9, Term: 1, Kind: 1, Body: text(long)}, api.Entry{Index: 9, Term: 1, Kind: 2, Body: make([]byte, long)})
	}
	return append(l, api.Entry{}, api.Entry{Kind: 1}, api.Entry{Term: 1, Kind: 2, Body: text(1)})
}

// P8.1

func TestExample(t *testing.T) {
	u, err := seg.Record(api.Ident{}, api.Entry{Index: 1, Term: 2, Kind: api.EntryCommand, Body: []byte("a")})
	want := []byte{0, 0, 0, 0, 0, 0, 0, 2, 0, 0, 0, 0, 0, 2, 'a'}
	if err != api.OK || u.Kind != api.UnitRecord || u.Num != 1 || !bytes.Equal(u.Body, want) {
		t.Error(u, err)
	}
}

func TestIdent(t *testing.T) {
	for _, index := range slices.Concat(rightNums, wrongNums) {
		for _, e := range rightEntries(index) {
			if i := seg.Ident(e); i != identOf(e) {
				t.Fatalf("of %v: %v", e, i)
			}
		}
	}
	for _, e := range wrongEntries() { // it is asked of no entry that it is right
		if i := seg.Ident(e); i != identOf(e) {
			t.Fatalf("of %v: %v", e, i)
		}
	}
}

func TestRecordIsToldAgain(t *testing.T) {
	for _, index := range rightNums[1:] {
		for _, e := range rightEntries(index) {
			for _, ahead := range identsAhead(index) {
				tells(t, "Record", records(t, ahead, e), api.OK)
				b := sealed(t, api.UnitRecord, index, recordBody(ahead, e))
				tells(t, "Of", isOf(t, b, index), api.OK)
			}
		}
	}
}

func TestRecordOfAnEntryThatIsNotRight(t *testing.T) {
	for _, e := range wrongEntries() {
		for _, ahead := range []api.Ident{{}, {Index: 8, Term: 1, Kind: 1}, {Index: e.Index - 1, Kind: 1}, {Index: -1, Term: -1, Kind: -1}} {
			tells(t, "Record", records(t, ahead, e), api.ErrArg)
		}
	}
}

func TestRecordBehindAnIdentThatIsNotAhead(t *testing.T) {
	for _, index := range rightNums[1:] {
		for _, e := range rightEntries(index) {
			for _, i := range identsAstray(index) {
				tells(t, "Record", records(t, i, e), api.ErrOrder)
			}
		}
	}
}

func TestOfAnotherIndex(t *testing.T) {
	for _, own := range []int{1, 2, 9, 256, most - 1, most} {
		ahead := identsAhead(own)[0]
		b := sealed(t, api.UnitRecord, own, recordBody(ahead, api.Entry{Index: own, Term: 1, Kind: 1}))
		for _, index := range []int{math.MinInt, -most, -own, -1} {
			tells(t, "Of an index below 0", isOf(t, b, index), api.ErrShape)
			tells(t, "Of an index below 0, and no block", isOf(t, nil, index), api.ErrShape)
			tells(t, "Of an index below 0, and a hurt block", isOf(t, turned(b, 70), index), api.ErrShape)
			tells(t, "Of an index below 0, and another unit", isOf(t, sealed(t, 4, own, nil), index), api.ErrShape)
		}
		for _, index := range []int{0, own - 1, own + 1, own + 256, most + 1, own + 1<<48, math.MaxInt} {
			tells(t, "Of another index", isOf(t, b, index), api.ErrKind)
		}
	}
}

// There is a unit of the number 0, but no entry of the Index 0.
func TestOfTheIndex0(t *testing.T) {
	for _, body := range [][]byte{nil, make([]byte, 13), make([]byte, 14), {0, 0, 0, 0, 0, 0, 0, 2, 0, 0, 0, 0, 0, 2, 'a'}, {1, 0, 0, 0, 0, 0, 1, 2, 0, 0, 0, 0, 0, 2}} {
		tells(t, "Of 0", isOf(t, sealed(t, api.UnitRecord, 0, body), 0), api.ErrShape)
	}
}

// others calls do with a block of each other Kind, of that number and body.
func others(t *testing.T, k api.UnitKind, num int, body []byte, do func(b []byte)) {
	t.Helper()
	for kind := api.UnitMeta; kind <= api.UnitSnap; kind++ {
		if kind != k {
			do(sealed(t, kind, num, body))
		}
	}
}

// spoilt calls do with what is no unit's block any more, and what is told of it.
func spoilt(b []byte, do func(b []byte, e api.Errno)) {
	for bit := range 8 * len(b) {
		e := api.ErrSum
		if gap := bit/8 >= 32 && bit/8 < 36; gap || bit >= 4 && bit < 8 {
			e = api.ErrShape // what is not summed up, and Kinds of which there are none
		}
		if bit < 4 && (b[0]^1<<bit < 1 || b[0]^1<<bit > 8) {
			e = api.ErrShape
		}
		do(turned(b, bit), e)
	}
	for _, long := range []int{0, 1, 32, 255} {
		do(b[:long], api.ErrShape)
	}
	do(nil, api.ErrShape)
	do(append(bytes.Clone(b), 0), api.ErrShape)
	do(make([]byte, 256), api.ErrShape)
}

func TestOfBlocksThatAreNone(t *testing.T) {
	for _, long := range []int{0, 6, 7, 200} {
		e := api.Entry{Index: 9, Term: 301, Kind: 3, Body: text(long)}
		body := recordBody(api.Ident{Index: 8, Term: 300, Kind: 1}, e)
		spoilt(sealed(t, api.UnitRecord, 9, body), func(b []byte, e api.Errno) {
			tells(t, "Of what is no unit", isOf(t, b, 9), e)
		})
		others(t, api.UnitRecord, 9, body, func(b []byte) {
			tells(t, "Of a unit of another Kind", isOf(t, b, 9), api.ErrKind)
		})
	}
}

func TestOfBodiesOfEachLength(t *testing.T) {
	for _, index := range []int{1, 2, most} {
		for _, fill := range []byte{0, 1} {
			body := make([]byte, 239)
			copy(body, recordBody(identsAhead(index)[0], api.Entry{Index: index, Term: 1, Kind: 3, Body: bytes.Repeat([]byte{fill}, 225)}))
			for long := range body {
				want := api.OK
				if long < 14 || long > 214 {
					want = api.ErrShape
				}
				tells(t, "Of", isOf(t, sealed(t, api.UnitRecord, index, body[:long]), index), want)
			}
			tells(t, "Of", isOf(t, sealed(t, api.UnitRecord, index, body), index), api.ErrShape)
			for long := range 20 {
				tells(t, "Of noughts", isOf(t, sealed(t, api.UnitRecord, index, make([]byte, long)), index), api.ErrShape)
			}
		}
	}
}

// wrongTermKinds are seven bytes each that are no Term and Kind of an entry.
func wrongTermKinds() [][]byte {
	l := [][]byte{{1, 0, 0, 0, 0, 1, 1}, {0, 0, 0, 0, 0, 2, 2}, {255, 255, 255, 255, 255, 255, 3}}
	for _, kind := range []byte{0, 4, 5, 8, 128, 255} {
		l = append(l, []byte{0, 0, 0, 0, 0, 0, kind}, []byte{1, 0, 0, 0, 0, 0, kind}, []byte{0, 0, 0, 0, 0, 1, kind})
	}
	return l
}

func TestOfPartsThatAreNotRight(t *testing.T) {
	fits := []byte{0, 0, 0, 0, 0, 1, 3} // the greatest Term
	for _, rest := range [][]byte{nil, text(9), text(200)} {
		for _, wrong := range wrongTermKinds() {
			for _, index := range []int{2, most} {
				b := sealed(t, api.UnitRecord, index, slices.Concat(wrong, fits, rest))
				tells(t, "an ident ahead that is not right", isOf(t, b, index), api.ErrShape)
				b = sealed(t, api.UnitRecord, index, slices.Concat(fits, wrong, rest))
				tells(t, "an entry that is not right", isOf(t, b, index), api.ErrShape)
				b = sealed(t, api.UnitRecord, index, slices.Concat(wrong, wrong, rest))
				tells(t, "nothing that is right", isOf(t, b, index), api.ErrShape)
			}
			b := sealed(t, api.UnitRecord, 1, slices.Concat(make([]byte, 7), wrong, rest))
			tells(t, "a first entry that is not right", isOf(t, b, 1), api.ErrShape)
		}
		for _, ahead := range append(wrongTermKinds()[:6], fits, []byte{0, 0, 0, 0, 0, 0, 1}, []byte{1, 0, 0, 0, 0, 0, 0}, []byte{0, 0, 0, 0, 0, 1, 0}) {
			if !bytes.Equal(ahead, make([]byte, 7)) {
				b := sealed(t, api.UnitRecord, 1, slices.Concat(ahead, fits, rest))
				tells(t, "something ahead of the first entry", isOf(t, b, 1), api.ErrShape)
			}
		}
	}
}

// What is told lies apart from what was handed in, and that stays as it was (R3).
func TestRecordLiesApart(t *testing.T) {
	whole := append(text(20), text(20)...)
	e := api.Entry{Index: 1, Term: 1, Kind: 1, Body: whole[:20]}
	u, _ := seg.Record(api.Ident{}, e)
	clear(u.Body)
	_ = append(u.Body, 77)
	if !bytes.Equal(whole, append(text(20), text(20)...)) {
		t.Error("the entry's Body is another one")
	}
	u, _ = seg.Record(api.Ident{}, e)
	clear(whole)
	if !bytes.Equal(u.Body[14:], text(20)) {
		t.Error("the record's Body has become another one")
	}
	b := sealed(t, u.Kind, u.Num, u.Body)
	was := bytes.Clone(b)
	got, _, _ := seg.Of(b, 1)
	if !bytes.Equal(b, was) {
		t.Error("Of changed its block")
	}
	clear(b)
	if !bytes.Equal(got.Body, text(20)) {
		t.Error("what was told of the block became another one")
	}
	got, _, _ = seg.Of(was, 1)
	clear(got.Body)
	if again, _, _ := seg.Of(was, 1); !bytes.Equal(again.Body, text(20)) {
		t.Error("the block is another one")
	}
}
