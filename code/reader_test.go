package code_test

import (
	"bytes"
	"math"
	"slices"
	"testing"

	"limpet/api"
	"limpet/code"
)

func sameEntry(a, b api.Entry) bool {
	return a.Index == b.Index && a.Term == b.Term && a.Kind == b.Kind && bytes.Equal(a.Body, b.Body)
}

// fails sees that do, which is to answer nothing, gets an error of all behind so many bytes, at that place from there, and that it stays.
func fails(t *testing.T, what string, b []byte, do func(r *code.Reader) bool, at int, e api.Errno) {
	t.Helper()
	for _, ahead := range []int{0, 1, 5} {
		r := code.Read(append(make([]byte, ahead), b...))
		for range ahead {
			r.Field(1)
		}
		if do(r) {
			t.Errorf("%s: something is got", what)
		}
		stays(t, what, r, ahead+at, e)
	}
}

// stays sees that a reader has that error, whatever is got behind it.
func stays(t *testing.T, what string, r *code.Reader, at int, e api.Errno) {
	t.Helper()
	for i, again := range []func() bool{
		func() bool { return false },
		func() bool { return r.Field(1) != 0 },
		func() bool { return r.Field(6) != 0 },
		func() bool { return r.Field(3) != 0 },
		func() bool { return len(r.Text(65535)) != 0 },
		func() bool { return len(r.Text(-1)) != 0 },
		func() bool { return len(r.Row(255)) != 0 },
		func() bool { return len(r.Row(-1)) != 0 },
		func() bool { return !sameEntry(r.Entry(), api.Entry{}) },
	} {
		if again() {
			t.Errorf("%s: got behind an error by %d", what, i)
		}
		if place, errno := r.Err(); place != at || errno != e {
			t.Fatalf("%s: by %d at %d the error %d, not at %d %d", what, i, place, errno, at, e)
		}
		if r.Left() != 0 {
			t.Errorf("%s: by %d left %d", what, i, r.Left())
		}
	}
}

// sound sees that a reader has no error, and so many bytes left.
func sound(t *testing.T, what string, r *code.Reader, left int) {
	t.Helper()
	if at, e := r.Err(); at != 0 || e != api.OK || r.Left() != left {
		t.Errorf("%s: at %d the error %d, left %d, not %d", what, at, e, r.Left(), left)
	}
}

func field(width int) func(r *code.Reader) bool {
	return func(r *code.Reader) bool { return r.Field(width) != 0 }
}

func text(most int) func(r *code.Reader) bool {
	return func(r *code.Reader) bool { return len(r.Text(most)) != 0 }
}

func row(most int) func(r *code.Reader) bool {
	return func(r *code.Reader) bool { return len(r.Row(most)) != 0 }
}

func anEntry(r *code.Reader) bool { return !sameEntry(r.Entry(), api.Entry{}) }

// P2.2

func TestGetFields(t *testing.T) {
	for _, f := range widths {
		for _, n := range []int{0, 1, 2, 255, f.greatest / 3, f.greatest - 1, f.greatest} {
			r := code.Read(append(fieldBytes(f.width, n), 7, 8))
			sound(t, "ahead of a field", r, f.width+2)
			if got := r.Field(f.width); got != n {
				t.Errorf("of %d bytes: %d, not %d", f.width, got, n)
			}
			sound(t, "behind a field", r, 2)
			if got := r.Field(1); got != 7 {
				t.Error(got)
			}
			sound(t, "behind two", r, 1)
		}
		for cut := range f.width {
			fails(t, "a field that is cut", fieldBytes(f.width, f.greatest)[:cut], field(f.width), 0, api.ErrShape)
		}
	}
	if got := code.Read([]byte{44, 1}).Field(2); got != 300 {
		t.Error(got)
	}
	if got := code.Read([]byte{1, 2, 3, 4, 5, 0}).Field(6); got != 0x0504030201 {
		t.Error(got)
	}
}

func TestFieldsOfFourAreNotBelowNothing(t *testing.T) {
	if got := code.Read([]byte{0, 0, 0, 0x80}).Field(4); got != 1<<31 {
		t.Error(got)
	}
	if got := code.Read([]byte{255, 255, 255, 255}).Field(4); got != 1<<32-1 {
		t.Error(got)
	}
}

func TestFieldsAboveMaxNum(t *testing.T) {
	if got := code.Read([]byte{0, 0, 0, 0, 0, 1}).Field(6); got != 1<<40 {
		t.Error(got)
	}
	for _, n := range []int{1<<40 + 1, 1<<40 + 256, 1 << 41, 1 << 47, 1<<48 - 1, 255 << 40} {
		fails(t, "a great number", append(fieldBytes(6, n), 1, 1, 1, 1, 1, 1), field(6), 0, api.ErrShape)
	}
}

func TestFieldsOfNoWidth(t *testing.T) {
	for _, width := range noWidths {
		fails(t, "no width", bytes.Repeat([]byte{1}, 300), field(width), 0, api.ErrShape)
		fails(t, "no width, no bytes", nil, field(width), 0, api.ErrShape)
	}
}

func TestGetTexts(t *testing.T) {
	for _, many := range []int{0, 1, 2, 255, 256, 65534, 65535} {
		b := filler(2, many)
		for _, most := range []int{many, many + 1, many + 255, 65535 + many, math.MaxInt} {
			r := code.Read(append(textBytes(b), 7, 8))
			if got := r.Text(most); !bytes.Equal(got, b) {
				t.Errorf("a text of %d bytes, at most %d", many, most)
			}
			sound(t, "behind a text", r, 2)
		}
	}
}

func TestTextsThatAreCut(t *testing.T) {
	for _, many := range []int{1, 2, 9, 300} {
		whole := textBytes(bytes.Repeat([]byte{1}, many))
		for cut := range whole {
			fails(t, "a text that is cut", whole[:cut], text(many), 0, api.ErrShape)
			fails(t, "a text that is cut, any", whole[:cut], text(math.MaxInt), 0, api.ErrShape)
		}
	}
	fails(t, "a number that is cut, no bytes asked for", []byte{1}, text(-1), 0, api.ErrShape)
	fails(t, "no number, no bytes asked for", nil, text(0), 0, api.ErrShape)
}

func TestTextsThatAreTooLong(t *testing.T) {
	for _, many := range []int{1, 2, 255, 256, 300, 65535} {
		whole := textBytes(bytes.Repeat([]byte{1}, many))
		for _, most := range []int{many - 1, many / 2, 0, -1, -many, math.MinInt} {
			fails(t, "a long text", whole, text(most), 0, api.ErrLong)
			fails(t, "a long text, with others behind", append(slices.Clone(whole), 1, 1, 1), text(most), 0, api.ErrLong)
			for _, cut := range []int{2, 2 + many/2, 1 + many} {
				fails(t, "a long text that is cut", whole[:cut], text(most), 0, api.ErrLong)
			}
		}
	}
	for _, most := range []int{-1, -2, math.MinInt} {
		fails(t, "more than below nothing", []byte{0, 0}, text(most), 0, api.ErrLong)
	}
}

func TestGetRows(t *testing.T) {
	for _, many := range []int{0, 1, 2, 254, 255} {
		l := make([]int, many)
		for i := range l {
			l[i] = []int{1 << 40, 0, 1, 1<<40 - 1, 1 << 32}[i%5]
		}
		for _, most := range []int{many, many + 1, 255 + many, 1000, math.MaxInt} {
			r := code.Read(append(rowBytes(l), 7, 8))
			if got := r.Row(most); !slices.Equal(got, l) {
				t.Errorf("a row of %d, at most %d: %v", many, most, got)
			}
			sound(t, "behind a row", r, 2)
		}
	}
}

func TestRowsThatAreCut(t *testing.T) {
	for _, many := range []int{1, 2, 5, 255} {
		whole := rowBytes(slices.Repeat([]int{1}, many))
		for cut := range whole {
			fails(t, "a row that is cut", whole[:cut], row(many), 0, api.ErrShape)
		}
	}
	fails(t, "no number, nothing asked for", nil, row(-1), 0, api.ErrShape)
}

func TestRowsThatAreTooLong(t *testing.T) {
	for _, many := range []int{1, 2, 3, 255} {
		whole := rowBytes(slices.Repeat([]int{1}, many))
		for _, most := range []int{many - 1, many / 2, 0, -1, -many, math.MinInt} {
			fails(t, "a long row", whole, row(most), 0, api.ErrLong)
			fails(t, "a long row, with others behind", append(slices.Clone(whole), 1, 1, 1), row(most), 0, api.ErrLong)
			for _, cut := range []int{1, 2, 7, len(whole) - 1} {
				fails(t, "a long row that is cut", whole[:cut], row(most), 0, api.ErrLong)
			}
		}
	}
	for _, most := range []int{-1, math.MinInt} {
		fails(t, "more than below nothing", []byte{0}, row(most), 0, api.ErrLong)
	}
}

func TestRowsWithGreatNumbers(t *testing.T) {
	for _, many := range []int{1, 2, 5, 255} {
		for _, place := range []int{0, many / 2, many - 1} {
			l := slices.Repeat([]int{3}, many)
			l[place] = 1<<40 + 1
			b := rowBytes(l)
			fails(t, "a great number of a row", b, row(many), 1+6*place, api.ErrShape)
			fails(t, "a great number of a long row", b, row(many-1), 0, api.ErrLong)
			fails(t, "a great number of a row that is cut", b[:len(b)-1], row(many), 0, api.ErrShape)
		}
	}
	all := rowBytes([]int{1, 1<<40 + 1, 1<<40 + 2})
	fails(t, "the first of two great numbers", all, row(3), 7, api.ErrShape)
}

func TestGetEntries(t *testing.T) {
	for _, e := range rightEntries() {
		r := code.Read(append(entryBytes(e), 7, 8))
		if got := r.Entry(); !sameEntry(got, e) {
			t.Errorf("%v, not %v", got, e)
		}
		sound(t, "behind an entry", r, 2)
	}
}

func TestEntriesThatAreNotRight(t *testing.T) {
	for _, e := range wrongEntries() {
		if e.Kind < 0 || e.Kind > 255 || e.Index < 0 || e.Index > 1<<40 || e.Term < 0 || e.Term > 1<<40 || len(e.Body) > 65535 {
			continue // it has no bytes, or none of fields that are right
		}
		fails(t, "an entry that is not right", append(entryBytes(e), 1, 1), anEntry, 0, api.ErrShape)
	}
	for kind := range 256 {
		b := entryBytes(api.Entry{Index: 1, Kind: api.EntryKind(kind)})
		if kind >= 1 && kind <= 3 {
			continue
		}
		fails(t, "a kind that is none", b, anEntry, 0, api.ErrShape)
	}
}

// place is where the part of an entry begins in which its bytes end.
func place(cut int) int {
	switch {
	case cut < 1:
		return 0
	case cut < 7:
		return 1
	case cut < 13:
		return 7
	}
	return 13
}

func TestEntriesThatAreCut(t *testing.T) {
	for _, many := range []int{0, 1, 5, 200, 201, 400} {
		whole := entryBytes(api.Entry{Index: 2, Term: 1, Kind: api.EntryCommand, Body: make([]byte, many)})
		for cut := range whole {
			fails(t, "an entry that is cut", whole[:cut], anEntry, place(cut), api.ErrShape)
		}
	}
}

func TestEntriesWithGreatNumbers(t *testing.T) {
	for _, kind := range []api.EntryKind{0, 1, 3, 4, 255} {
		great := entryBytes(api.Entry{Kind: kind, Index: 1<<40 + 1, Term: 1})
		fails(t, "a great index", great, anEntry, 1, api.ErrShape)
		fails(t, "a great index, and a cut", great[:7], anEntry, 1, api.ErrShape)
		great = entryBytes(api.Entry{Kind: kind, Index: 1, Term: 1<<40 + 1})
		fails(t, "a great term", great, anEntry, 7, api.ErrShape)
		great = entryBytes(api.Entry{Kind: kind, Index: 1<<48 - 1, Term: 1<<48 - 1})
		fails(t, "both great", great, anEntry, 1, api.ErrShape)
	}
}

func TestReadersOfNothing(t *testing.T) {
	for _, b := range [][]byte{nil, {}} {
		sound(t, "nothing is got", code.Read(b), 0)
		fails(t, "a field", b, field(1), 0, api.ErrShape)
		fails(t, "an entry", b, anEntry, 0, api.ErrShape)
	}
}

func TestTheFirstErrorStays(t *testing.T) {
	r := code.Read([]byte{5, 0, 1, 2})
	r.Text(4)
	r.Text(9)
	stays(t, "too long, then cut", r, 0, api.ErrLong)

	r = code.Read([]byte{5, 0, 1, 2})
	r.Text(9)
	r.Text(4)
	stays(t, "cut, then too long", r, 0, api.ErrShape)

	r = code.Read([]byte{1, 2, 3})
	r.Field(2)
	r.Field(2)
	r.Field(1)
	stays(t, "cut, then there", r, 2, api.ErrShape)

	r = code.Read([]byte{9, 9})
	r.Field(1)
	r.Field(0)
	stays(t, "no width", r, 1, api.ErrShape)
}

func TestNoReader(t *testing.T) {
	var zero code.Reader
	for _, r := range []*code.Reader{nil, &zero, new(code.Reader)} {
		stays(t, "no reader", r, 0, api.ErrNil)
	}
}

func TestReaderKeepsAndChangesNoArgument(t *testing.T) {
	b := slices.Concat([]byte{5}, textBytes([]byte("abc")), rowBytes([]int{1, 2}), entryBytes(api.Entry{Index: 1, Kind: api.EntryCommand, Body: []byte("body")}))
	before := bytes.Clone(b)
	r := code.Read(b)
	other := code.Read(b)
	other.Field(1)
	clear(other.Text(3))
	clear(other.Row(2))
	clear(other.Entry().Body)
	sound(t, "the other one", other, 0)
	if !bytes.Equal(b, before) {
		t.Error("the bytes are changed")
	}
	clear(b)
	if r.Field(1) != 5 || string(r.Text(3)) != "abc" || !slices.Equal(r.Row(2), []int{1, 2}) || string(r.Entry().Body) != "body" {
		t.Error("the bytes are kept")
	}
	sound(t, "behind all", r, 0)
}

func TestReaderHandsOutNewMemory(t *testing.T) {
	b := slices.Concat(textBytes([]byte("abc")), textBytes([]byte("def")), []byte{9})
	r := code.Read(b)
	again := *r // at the same bytes
	first := r.Text(3)
	_ = append(first, bytes.Repeat([]byte{0xFF}, 20)...)
	clear(first)
	if second := r.Text(3); string(second) != "def" || r.Field(1) != 9 {
		t.Error("behind a text that was changed")
	}
	if string(again.Text(3)) != "abc" {
		t.Error("a text is shared with the reader")
	}
}

func TestCopiesOfAReaderGoOnByThemselves(t *testing.T) {
	r := code.Read([]byte{1, 2, 3, 4})
	r.Field(1)
	other := *r
	if other.Field(2) != 2+3*256 || other.Field(2) != 0 {
		t.Error("the copy")
	}
	sound(t, "the one that was copied", r, 3)
	if r.Field(1) != 2 {
		t.Error("the one that was copied")
	}
	stays(t, "the copy", &other, 3, api.ErrShape)
}
