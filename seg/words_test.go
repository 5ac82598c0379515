package seg_test

import (
	"bytes"
	"hash/crc32"
	"slices"
	"testing"

	"limpet/api"
	"limpet/seg"
	"limpet/unit"
)

const most = 1 << 40

// field is the bytes of one, by the words of chapter 2.
func field(width, n int) []byte {
	var b []byte
	for range width {
		b = append(b, byte(n%256))
		n /= 256
	}
	return b
}

// number is what the bytes of a field tell.
func number(b []byte) int {
	n := 0
	for _, c := range slices.Backward(b) {
		n = n*256 + int(c)
	}
	return n
}

// from says whether a number is from 0, or 1, to the greatest one.
func from(least, n int) bool { return n >= least && n <= most }

func kindIsOne(k api.EntryKind) bool { return k == 1 || k == 2 || k == 3 }

func entryIsRight(e api.Entry) bool {
	return from(1, e.Index) && from(0, e.Term) && kindIsOne(e.Kind) && len(e.Body) <= 200
}

func identIsRight(i api.Ident) bool {
	if i.Index == 0 {
		return i.Term == 0 && i.Kind == 0
	}
	return from(1, i.Index) && from(0, i.Term) && kindIsOne(i.Kind)
}

// termKind is how a Term and a Kind lie in each body.
func termKind(i api.Ident) []byte { return append(field(6, i.Term), byte(i.Kind)) }

func identOf(e api.Entry) api.Ident { return api.Ident{Index: e.Index, Term: e.Term, Kind: e.Kind} }

func recordBody(ahead api.Ident, e api.Entry) []byte {
	return slices.Concat(termKind(ahead), termKind(identOf(e)), e.Body)
}

func headBody(ahead api.Ident) []byte { return append(field(6, ahead.Index), termKind(ahead)...) }

func footBody(last api.Ident, blocks ...[]byte) []byte {
	var sums []byte
	for _, b := range blocks {
		sums = append(sums, b[28], b[29], b[30], b[31])
	}
	sum := crc32.Checksum(sums, crc32.MakeTable(crc32.Castagnoli))
	return append(field(4, int(sum)), termKind(last)...)
}

// The chapter told a second time: what a block is of is read at its places, and held against what is built of that.

func recordSaid(ahead api.Ident, e api.Entry) (api.Unit, api.Errno) {
	switch {
	case !entryIsRight(e):
		return api.Unit{}, api.ErrArg
	case ahead.Index != e.Index-1 || !identIsRight(ahead):
		return api.Unit{}, api.ErrOrder
	}
	return api.Unit{Kind: 5, Num: e.Index, Body: recordBody(ahead, e)}, api.OK
}

func ofSaid(b []byte, index int) (api.Entry, api.Ident, api.Errno) {
	if index < 0 {
		return api.Entry{}, api.Ident{}, api.ErrShape
	}
	body, err := unit.As(b, 5, index)
	if err != api.OK {
		return api.Entry{}, api.Ident{}, err
	}
	if len(body) < 14 {
		return api.Entry{}, api.Ident{}, api.ErrShape
	}
	ahead := api.Ident{Index: index - 1, Term: number(body[:6]), Kind: api.EntryKind(body[6])}
	e := api.Entry{Index: index, Term: number(body[7:13]), Kind: api.EntryKind(body[13]), Body: body[14:]}
	if _, err := recordSaid(ahead, e); err != api.OK {
		return api.Entry{}, api.Ident{}, api.ErrShape
	}
	return e, ahead, api.OK
}

// firstSaid is the first index of a segment number, below 0 if there is none.
func firstSaid(s api.Shape, g int) int {
	if s.Segments < 2 || s.Segments > 16 || s.Records < 1 || s.Records > 32 || s.Pieces < 1 || s.Pieces > 48 || !from(0, g) {
		return -1
	}
	return g*s.Records + 1
}

func headSaid(s api.Shape, g int, ahead api.Ident) (api.Unit, api.Errno) {
	first := firstSaid(s, g)
	switch {
	case first < 0:
		return api.Unit{}, api.ErrArg
	case ahead.Index != first-1 || !identIsRight(ahead):
		return api.Unit{}, api.ErrOrder
	}
	return api.Unit{Kind: 4, Num: g, Body: headBody(ahead)}, api.OK
}

func aheadSaid(b []byte, s api.Shape, g int) (api.Ident, api.Errno) {
	if firstSaid(s, g) < 0 {
		return api.Ident{}, api.ErrArg
	}
	body, err := unit.As(b, 4, g)
	if err != api.OK {
		return api.Ident{}, err
	}
	if len(body) != 13 {
		return api.Ident{}, api.ErrShape
	}
	i := api.Ident{Index: number(body[:6]), Term: number(body[6:12]), Kind: api.EntryKind(body[12])}
	if _, err := headSaid(s, g, i); err != api.OK {
		return api.Ident{}, api.ErrShape
	}
	return i, api.OK
}

func footSaid(s api.Shape, g int, blocks ...[]byte) (api.Unit, api.Errno) {
	first := firstSaid(s, g)
	if first < 0 || len(blocks) != s.Records {
		return api.Unit{}, api.ErrArg
	}
	var entries []api.Entry
	var aheads []api.Ident
	for i, b := range blocks {
		e, ahead, err := ofSaid(b, first+i)
		if err != api.OK {
			return api.Unit{}, err
		}
		entries, aheads = append(entries, e), append(aheads, ahead)
	}
	for i := 1; i < len(blocks); i++ {
		if identOf(entries[i-1]) != aheads[i] {
			return api.Unit{}, api.ErrOrder
		}
	}
	return api.Unit{Kind: 6, Num: g, Body: footBody(identOf(entries[len(entries)-1]), blocks...)}, api.OK
}

func shutSaid(b []byte, s api.Shape, g int, blocks ...[]byte) api.Errno {
	foot, err := footSaid(s, g, blocks...)
	if err != api.OK {
		return err
	}
	body, err := unit.As(b, 6, g)
	switch {
	case err != api.OK:
		return err
	case !bytes.Equal(body, foot.Body):
		return api.ErrSum
	}
	return api.OK
}

func sameUnit(a, b api.Unit) bool {
	return a.Kind == b.Kind && a.Num == b.Num && bytes.Equal(a.Body, b.Body)
}

func sameEntry(a, b api.Entry) bool {
	return identOf(a) == identOf(b) && bytes.Equal(a.Body, b.Body)
}

// Each of these calls one of the package's calls, sees that it tells what the words do, and is the error that they tell.

func records(t *testing.T, ahead api.Ident, e api.Entry) api.Errno {
	t.Helper()
	want, err := recordSaid(ahead, e)
	if u, got := seg.Record(ahead, e); got != err || !sameUnit(u, want) {
		t.Fatalf("Record(%v, %v): %v, %d, not %v, %d", ahead, e, u, got, want, err)
	}
	return err
}

func isOf(t *testing.T, b []byte, index int) api.Errno {
	t.Helper()
	want, ahead, err := ofSaid(b, index)
	if e, i, got := seg.Of(b, index); got != err || !sameEntry(e, want) || i != ahead {
		t.Fatalf("Of(%v, %d): %v, %v, %d, not %v, %v, %d", b, index, e, i, got, want, ahead, err)
	}
	return err
}

func heads(t *testing.T, s api.Shape, g int, ahead api.Ident) api.Errno {
	t.Helper()
	want, err := headSaid(s, g, ahead)
	if u, got := seg.Head(s, g, ahead); got != err || !sameUnit(u, want) {
		t.Fatalf("Head(%v, %d, %v): %v, %d, not %v, %d", s, g, ahead, u, got, want, err)
	}
	return err
}

func aheads(t *testing.T, b []byte, s api.Shape, g int) api.Errno {
	t.Helper()
	want, err := aheadSaid(b, s, g)
	if i, got := seg.Ahead(b, s, g); got != err || i != want {
		t.Fatalf("Ahead(%v, %v, %d): %v, %d, not %v, %d", b, s, g, i, got, want, err)
	}
	return err
}

func feet(t *testing.T, s api.Shape, g int, blocks ...[]byte) api.Errno {
	t.Helper()
	want, err := footSaid(s, g, blocks...)
	if u, got := seg.Foot(s, g, blocks...); got != err || !sameUnit(u, want) {
		t.Fatalf("Foot(%v, %d, %v): %v, %d, not %v, %d", s, g, blocks, u, got, want, err)
	}
	return err
}

func shuts(t *testing.T, b []byte, s api.Shape, g int, blocks ...[]byte) api.Errno {
	t.Helper()
	err := shutSaid(b, s, g, blocks...)
	if got := seg.Shut(b, s, g, blocks...); got != err {
		t.Fatalf("Shut(%v, %v, %d, %v): %d, not %d", b, s, g, blocks, got, err)
	}
	return err
}
