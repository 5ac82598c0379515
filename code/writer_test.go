package code_test

import (
	"bytes"
	"math"
	"slices"
	"testing"

	"limpet/api"
	"limpet/code"
)

// widths are those that are, each with its greatest number.
var widths = []struct{ width, greatest int }{
	{1, 1<<8 - 1}, {2, 1<<16 - 1}, {4, 1<<32 - 1}, {6, 1 << 40},
}

// noWidths are those that are none.
var noWidths = []int{0, 3, 5, 7, 8, 9, 16, 255, 256, 258, 1 << 32, 1<<32 + 1, -1, -2, -4, -6, math.MinInt, math.MaxInt}

var kinds = []api.EntryKind{api.EntryNone, api.EntryCommand, api.EntryGroup}

// fieldBytes are a field's bytes by division.
func fieldBytes(width, n int) []byte {
	b := make([]byte, width)
	for i := range b {
		b[i] = byte(n % 256)
		n /= 256
	}
	return b
}

func textBytes(b []byte) []byte { return append(fieldBytes(2, len(b)), b...) }

func rowBytes(l []int) []byte {
	b := fieldBytes(1, len(l))
	for _, n := range l {
		b = append(b, fieldBytes(6, n)...)
	}
	return b
}

func entryBytes(e api.Entry) []byte {
	return slices.Concat(fieldBytes(1, int(e.Kind)), fieldBytes(6, e.Index), fieldBytes(6, e.Term), textBytes(e.Body))
}

// filler is bytes that look like chance, and are the same each time.
func filler(seed uint32, many int) []byte {
	b := make([]byte, many)
	for i := range b {
		seed = seed*1664525 + 1013904223
		b[i] = byte(seed >> 16)
	}
	return b
}

// puts sees that what do puts is want, also behind something and with something behind it.
func puts(t *testing.T, what string, do func(w *code.Writer), want []byte) {
	t.Helper()
	var alone, amid code.Writer
	do(&alone)
	if b, ok := alone.Bytes(); !ok || !bytes.Equal(b, want) {
		t.Errorf("%s: %v, %v, not %v", what, b, ok, want)
	}
	amid.Field(1, 77)
	do(&amid)
	amid.Field(1, 99)
	if b, ok := amid.Bytes(); !ok || !bytes.Equal(b, slices.Concat([]byte{77}, want, []byte{99})) {
		t.Errorf("%s: amid others: %v, %v", what, b, ok)
	}
}

// spoils sees that do spoils a writer, an empty one and one with bytes, for good.
func spoils(t *testing.T, what string, do func(w *code.Writer)) {
	t.Helper()
	for _, ahead := range []int{0, 3} {
		var w code.Writer
		for range ahead {
			w.Field(1, 1)
		}
		do(&w)
		for i, again := range []func(){
			func() {},
			func() { w.Field(1, 2) },
			func() { w.Field(6) },
			func() { w.Text([]byte("a")) },
			func() { w.Row([]int{1}) },
			func() { w.Row(nil) },
			func() { w.Entry(api.Entry{Index: 1, Kind: api.EntryNone}) },
			func() { do(&w) },
		} {
			again()
			if b, ok := w.Bytes(); ok || len(b) != 0 {
				t.Errorf("%s: behind %d bytes, then %d: %v, %v", what, ahead, i, b, ok)
			}
		}
	}
}

// P2.1

func TestExamples(t *testing.T) {
	puts(t, "the field 300 of 2", func(w *code.Writer) { w.Field(2, 300) }, []byte{44, 1})
	puts(t, "the text ab", func(w *code.Writer) { w.Text([]byte("ab")) }, []byte{2, 0, 'a', 'b'})
	puts(t, "the row 7", func(w *code.Writer) { w.Row([]int{7}) }, []byte{1, 7, 0, 0, 0, 0, 0})
}

func TestWriterThatIsJustThereIsEmpty(t *testing.T) {
	var w code.Writer
	if b, ok := w.Bytes(); !ok || len(b) != 0 {
		t.Error(b, ok)
	}
	w.Field(1)
	w.Field(6, []int{}...)
	if b, ok := w.Bytes(); !ok || len(b) != 0 {
		t.Error(b, ok)
	}
}

func TestFieldPutsTheLowestBitsFirst(t *testing.T) {
	puts(t, "1", func(w *code.Writer) { w.Field(1, 0xAB) }, []byte{0xAB})
	puts(t, "2", func(w *code.Writer) { w.Field(2, 0xABCD) }, []byte{0xCD, 0xAB})
	puts(t, "4", func(w *code.Writer) { w.Field(4, 0x89ABCDEF) }, []byte{0xEF, 0xCD, 0xAB, 0x89})
	puts(t, "6", func(w *code.Writer) { w.Field(6, 0x89ABCDEF01) }, []byte{0x01, 0xEF, 0xCD, 0xAB, 0x89, 0})
}

func TestFieldOfEachWidth(t *testing.T) {
	for _, f := range widths {
		numbers := []int{0, 1, 2, f.greatest / 3, f.greatest - 1, f.greatest}
		for n := 1; n < f.greatest; n *= 2 {
			numbers = append(numbers, n, n-1)
		}
		var all []byte
		for _, n := range numbers {
			puts(t, "a field", func(w *code.Writer) { w.Field(f.width, n) }, fieldBytes(f.width, n))
			all = append(all, fieldBytes(f.width, n)...)
		}
		puts(t, "many fields", func(w *code.Writer) { w.Field(f.width, numbers...) }, all)
		puts(t, "no fields", func(w *code.Writer) { w.Field(f.width) }, nil)
	}
}

func TestFieldSpoils(t *testing.T) {
	for _, f := range widths {
		for _, n := range []int{f.greatest + 1, f.greatest + 2, f.greatest * 2, f.greatest * 256, 1 << 48, -1, -2, -f.greatest, -256, -1 << 32, -1 << 48, math.MinInt, math.MaxInt} {
			spoils(t, "a number", func(w *code.Writer) { w.Field(f.width, n) })
			spoils(t, "the first number", func(w *code.Writer) { w.Field(f.width, n, 1, 2) })
			spoils(t, "the last number", func(w *code.Writer) { w.Field(f.width, 1, 2, n) })
		}
	}
	for _, width := range noWidths {
		spoils(t, "a width, no number", func(w *code.Writer) { w.Field(width) })
		spoils(t, "a width", func(w *code.Writer) { w.Field(width, 0) })
		spoils(t, "a width, a number that is none", func(w *code.Writer) { w.Field(width, -1) })
	}
}

func TestText(t *testing.T) {
	puts(t, "nil", func(w *code.Writer) { w.Text(nil) }, []byte{0, 0})
	puts(t, "nothing", func(w *code.Writer) { w.Text([]byte{}) }, []byte{0, 0})
	for _, many := range []int{1, 2, 255, 256, 257, 4000, 65534, 65535} {
		b := filler(1, many)
		puts(t, "a text", func(w *code.Writer) { w.Text(b) }, textBytes(b))
	}
	for _, many := range []int{65536, 65537, 1 << 17, 1<<17 + 3} {
		spoils(t, "a long text", func(w *code.Writer) { w.Text(make([]byte, many)) })
	}
}

func TestRow(t *testing.T) {
	puts(t, "nil", func(w *code.Writer) { w.Row(nil) }, []byte{0})
	puts(t, "nothing", func(w *code.Writer) { w.Row([]int{}) }, []byte{0})
	puts(t, "the ends", func(w *code.Writer) { w.Row([]int{0, 1 << 40, 1<<40 - 1, 1}) }, rowBytes([]int{0, 1 << 40, 1<<40 - 1, 1}))
	for _, many := range []int{1, 2, 254, 255} {
		l := make([]int, many)
		for i := range l {
			l[i] = i * i * 1234567
		}
		puts(t, "a row", func(w *code.Writer) { w.Row(l) }, rowBytes(l))
		for _, n := range []int{1<<40 + 1, 1 << 41, 1 << 48, -1, math.MinInt, math.MaxInt} {
			for _, place := range []int{0, many / 2, many - 1} {
				other := slices.Clone(l)
				other[place] = n
				spoils(t, "a number of a row", func(w *code.Writer) { w.Row(other) })
			}
		}
	}
	for _, many := range []int{256, 257, 512, 1 << 17} {
		spoils(t, "a long row", func(w *code.Writer) { w.Row(make([]int, many)) })
	}
}

// rightEntries have their parts at their ends.
func rightEntries() []api.Entry {
	var l []api.Entry
	for _, kind := range kinds {
		for _, index := range []int{1, 2, 1<<40 - 1, 1 << 40} {
			for _, term := range []int{0, 1, 1 << 40} {
				for _, many := range []int{0, 1, 199, 200} {
					l = append(l, api.Entry{Index: index, Term: term, Kind: kind, Body: filler(uint32(term), many)})
				}
			}
		}
	}
	return l
}

// wrongEntries have each one part beside its ends.
func wrongEntries() []api.Entry {
	var l []api.Entry
	for _, e := range rightEntries() {
		for _, kind := range []api.EntryKind{0, 4, 5, 256, 257, 258, 259, -1, math.MinInt, math.MaxInt} {
			l = append(l, api.Entry{Index: e.Index, Term: e.Term, Kind: kind, Body: e.Body})
		}
		for _, index := range []int{0, 1<<40 + 1, 1<<48 + 1, -1, math.MinInt, math.MaxInt} {
			l = append(l, api.Entry{Index: index, Term: e.Term, Kind: e.Kind, Body: e.Body})
		}
		for _, term := range []int{-1, 1<<40 + 1, 1 << 48, math.MinInt, math.MaxInt} {
			l = append(l, api.Entry{Index: e.Index, Term: term, Kind: e.Kind, Body: e.Body})
		}
		for _, many := range []int{201, 202, 255, 256, 456, 65535, 65536} {
			l = append(l, api.Entry{Index: e.Index, Term: e.Term, Kind: e.Kind, Body: make([]byte, many)})
		}
	}
	return append(l, api.Entry{})
}

func TestRight(t *testing.T) {
	for _, e := range rightEntries() {
		if !code.Right(e) {
			t.Errorf("%d, %d, %d, %d bytes is not", e.Kind, e.Index, e.Term, len(e.Body))
		}
	}
	for _, e := range wrongEntries() {
		if code.Right(e) {
			t.Errorf("%d, %d, %d, %d bytes is", e.Kind, e.Index, e.Term, len(e.Body))
		}
	}
	if !code.Right(api.Entry{Index: 1, Kind: api.EntryNone, Body: nil}) || !code.Right(api.Entry{Index: 1, Kind: api.EntryNone, Body: []byte{}}) {
		t.Error("no body")
	}
}

func TestEntry(t *testing.T) {
	e := api.Entry{Index: 258, Term: 3, Kind: api.EntryGroup, Body: []byte("xy")}
	puts(t, "an entry", func(w *code.Writer) { w.Entry(e) }, []byte{3, 2, 1, 0, 0, 0, 0, 3, 0, 0, 0, 0, 0, 2, 0, 'x', 'y'})
	for _, e := range rightEntries() {
		puts(t, "an entry", func(w *code.Writer) { w.Entry(e) }, entryBytes(e))
	}
	for _, e := range wrongEntries() {
		spoils(t, "a wrong entry", func(w *code.Writer) { w.Entry(e) })
	}
}

func TestNoWriter(t *testing.T) {
	var w *code.Writer
	w.Field(1, 1)
	w.Field(3)
	w.Field(1, -1)
	w.Text([]byte("a"))
	w.Text(nil)
	w.Text(make([]byte, 65536))
	w.Row([]int{1})
	w.Row(nil)
	w.Row(make([]int, 256))
	w.Entry(api.Entry{Index: 1, Kind: api.EntryNone})
	w.Entry(api.Entry{})
	if b, ok := w.Bytes(); ok || len(b) != 0 {
		t.Error(b, ok)
	}
}

func TestBytesAreToldAgainAndGoOn(t *testing.T) {
	var w code.Writer
	var want []byte
	for i := range 600 {
		w.Field(1, i%256)
		want = append(want, byte(i))
		for range 2 {
			if b, ok := w.Bytes(); !ok || !bytes.Equal(b, want) {
				t.Fatalf("%d: %v, %v", i, b, ok)
			}
		}
	}
}

func TestWriterKeepsAndChangesNoArgument(t *testing.T) {
	numbers, text, row, body := []int{1, 2}, []byte("text"), []int{3, 4}, []byte("body")
	var w code.Writer
	w.Field(1, numbers...)
	w.Text(text)
	w.Row(row)
	w.Entry(api.Entry{Index: 1, Kind: api.EntryCommand, Body: body})
	if !slices.Equal(numbers, []int{1, 2}) || string(text) != "text" || !slices.Equal(row, []int{3, 4}) || string(body) != "body" {
		t.Error("an argument is changed")
	}
	before, _ := w.Bytes()
	numbers[0], text[0], row[0], body[0] = 9, '9', 9, '9'
	if after, ok := w.Bytes(); !ok || !bytes.Equal(before, after) {
		t.Error("an argument is kept")
	}
}

func TestWriterHandsOutNewMemory(t *testing.T) {
	for _, many := range []int{1, 2, 50} {
		var w code.Writer
		var want []byte
		for range many {
			w.Text([]byte("abc"))
			want = append(want, textBytes([]byte("abc"))...)
		}
		first, _ := w.Bytes()
		other, _ := w.Bytes()
		clear(first)
		_ = append(first, "more behind it"...)
		if !bytes.Equal(other, want) {
			t.Error("two answers share")
		}
		w.Field(1, 5)
		if b, ok := w.Bytes(); !ok || !bytes.Equal(b, append(want, 5)) {
			t.Error("an answer is shared with the writer", b)
		}
	}
}

func TestCopiesOfAWriterGoOnByThemselves(t *testing.T) {
	for ahead := range 40 {
		var w code.Writer
		for range ahead {
			w.Field(1, 1)
		}
		one, two, spoilt := w, w, w
		one.Field(1, 2)
		two.Text([]byte("ab"))
		spoilt.Field(3)
		w.Field(1, 3, 4)
		head := bytes.Repeat([]byte{1}, ahead)
		for _, c := range []struct {
			w    *code.Writer
			tail []byte
		}{{&one, []byte{2}}, {&two, []byte{2, 0, 'a', 'b'}}, {&w, []byte{3, 4}}} {
			if b, ok := c.w.Bytes(); !ok || !bytes.Equal(b, slices.Concat(head, c.tail)) {
				t.Errorf("%d: %v, %v, behind it not %v", ahead, b, ok, c.tail)
			}
		}
		if b, ok := spoilt.Bytes(); ok || len(b) != 0 {
			t.Error(b, ok)
		}
	}
}

func TestGreatWriterEnds(t *testing.T) {
	var w code.Writer
	for i := range 1 << 18 {
		w.Field(4, i)
	}
	b, ok := w.Bytes()
	if !ok || len(b) != 4<<18 {
		t.Fatal(len(b), ok)
	}
	for i := 0; i < 1<<18; i += 999 {
		if !bytes.Equal(b[4*i:][:4], fieldBytes(4, i)) {
			t.Fatal(i)
		}
	}
}
