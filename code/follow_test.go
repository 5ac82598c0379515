package code_test

import (
	"bytes"
	"slices"
	"testing"

	"limpet/api"
	"limpet/code"
)

// thing is something that can be put and got: a field of a width, a text, a row, an entry.
type thing struct {
	sort   byte // f, t, r, e
	width  int
	number int
	text   []byte
	row    []int
	entry  api.Entry
}

func (x thing) put(w *code.Writer) {
	switch x.sort {
	case 'f':
		w.Field(x.width, x.number)
	case 't':
		w.Text(x.text)
	case 'r':
		w.Row(x.row)
	case 'e':
		w.Entry(x.entry)
	}
}

// get is a thing of x's sort and width; texts and rows are as long as they like.
func (x thing) get(r *code.Reader) thing {
	got := thing{sort: x.sort, width: x.width}
	switch x.sort {
	case 'f':
		got.number = r.Field(x.width)
	case 't':
		got.text = r.Text(65535)
	case 'r':
		got.row = r.Row(255)
	case 'e':
		got.entry = r.Entry()
	}
	return got
}

func (x thing) bytes() []byte {
	switch x.sort {
	case 'f':
		return fieldBytes(x.width, x.number)
	case 't':
		return textBytes(x.text)
	case 'r':
		return rowBytes(x.row)
	}
	return entryBytes(x.entry)
}

func (x thing) same(y thing) bool {
	return x.sort == y.sort && x.width == y.width && x.number == y.number &&
		bytes.Equal(x.text, y.text) && slices.Equal(x.row, y.row) && sameEntry(x.entry, y.entry)
}

// dice are numbers that look like chance, and are the same each time.
type dice struct{ seed uint64 }

// below is a number from 0 to below n.
func (d *dice) below(n int) int {
	d.seed += 0x9E3779B97F4A7C15
	x := d.seed
	x = (x ^ x>>30) * 0xBF58476D1CE4E5B9
	x = (x ^ x>>27) * 0x94D049BB133111EB
	return int((x ^ x>>31) % uint64(n))
}

// num is a number of a field of 6, often one of its ends.
func num(d *dice) int {
	switch d.below(4) {
	case 0:
		return 1 << 40
	case 1:
		return d.below(3)
	}
	return d.below(1<<40 + 1)
}

func someBytes(d *dice, most int) []byte {
	b := make([]byte, d.below(most+1))
	for i := range b {
		b[i] = byte(d.below(256))
	}
	return b
}

func someThing(d *dice) thing {
	switch d.below(4) {
	case 0:
		return thing{sort: 't', text: someBytes(d, 300)}
	case 1:
		l := make([]int, d.below(9))
		for i := range l {
			l[i] = num(d)
		}
		return thing{sort: 'r', row: l}
	case 2:
		return thing{sort: 'e', entry: api.Entry{Index: max(1, num(d)), Term: num(d), Kind: kinds[d.below(3)], Body: someBytes(d, 200)}}
	}
	f := widths[d.below(len(widths))]
	return thing{sort: 'f', width: f.width, number: d.below(f.greatest + 1)}
}

// P2.3

func TestWhatIsPutIsGotWhateverStandsBehind(t *testing.T) {
	d := &dice{1}
	for range 2000 {
		var w code.Writer
		var things []thing
		var want []byte
		for range d.below(12) {
			x := someThing(d)
			x.put(&w)
			things, want = append(things, x), append(want, x.bytes()...)
		}
		b, ok := w.Bytes()
		if !ok || !bytes.Equal(b, want) {
			t.Fatalf("put: %v, %v, not %v", b, ok, want)
		}
		behind := someBytes(d, 20)
		r := code.Read(append(b, behind...))
		for _, x := range things {
			if got := x.get(r); !got.same(x) {
				t.Fatalf("got %v, not %v", got, x)
			}
		}
		sound(t, "behind all that was put", r, len(behind))
	}
}

// stray is bytes which are now and then something: small numbers are many among them, and half of them begin with a thing, perhaps cut.
func stray(d *dice) []byte {
	b := someBytes(d, 60)
	for i := range b {
		if d.below(4) > 0 {
			b[i] = byte(d.below(4))
		}
	}
	if d.below(2) == 0 {
		return b
	}
	b = append(someThing(d).bytes(), b...)
	return b[:len(b)-d.below(min(9, len(b)))]
}

func TestWhatIsGotIsPutByTheBytesGoneThrough(t *testing.T) {
	d := &dice{2}
	got := map[byte]int{}
	for range 60_000 {
		b := stray(d)
		r := code.Read(b)
		var w code.Writer
		var gone int
		for {
			x := someThing(d).get(r)
			if _, e := r.Err(); e != api.OK {
				break
			}
			x.put(&w)
			gone = len(b) - r.Left()
			got[x.sort]++
		}
		if put, ok := w.Bytes(); !ok || !bytes.Equal(put, b[:gone]) {
			t.Fatalf("gone through %v, put %v, %v", b[:gone], put, ok)
		}
	}
	for _, sort := range []byte("ftre") {
		if got[sort] < 100 {
			t.Errorf("%c was got %d times: the bytes are not well chosen", sort, got[sort])
		}
	}
}

func TestLongestTextAndRowAreGotAgain(t *testing.T) {
	long := thing{sort: 't', text: filler(3, 65535)}
	full := thing{sort: 'r', row: slices.Repeat([]int{1 << 40, 0, 5}, 85)}
	var w code.Writer
	for _, x := range []thing{long, full, long} {
		x.put(&w)
	}
	b, ok := w.Bytes()
	if !ok {
		t.Fatal("spoilt")
	}
	r := code.Read(b)
	for _, x := range []thing{long, full, long} {
		if !x.get(r).same(x) {
			t.Errorf("a %c", x.sort)
		}
	}
	sound(t, "behind all", r, 0)
}

// asked is one call of a reader, by the chapter's words: how long what is got is, or the place and the error.
func asked(x thing, most int, b []byte, from int) (long, at int, e api.Errno) {
	told := func(place, width int) (int, bool) { // a field's number, if it can be got
		if place+width > len(b) {
			return 0, false
		}
		n := 0
		for i := width - 1; i >= 0; i-- {
			n = n*256 + int(b[place+i])
		}
		return n, n <= api.MaxNum
	}
	list := func(place, width, each, most int) (int, api.Errno) {
		many, ok := told(place, width)
		switch {
		case !ok:
			return 0, api.ErrShape
		case many > most:
			return 0, api.ErrLong
		case place+width+many*each > len(b):
			return 0, api.ErrShape
		}
		return many, api.OK
	}
	switch x.sort {
	case 'f':
		if _, ok := told(from, x.width); !ok {
			return 0, from, api.ErrShape
		}
		return x.width, 0, api.OK
	case 't':
		many, e := list(from, 2, 1, most)
		if e != api.OK {
			return 0, from, e
		}
		return 2 + many, 0, api.OK
	case 'r':
		many, e := list(from, 1, 6, most)
		if e != api.OK {
			return 0, from, e
		}
		for i := range many {
			if _, ok := told(from+1+6*i, 6); !ok {
				return 0, from + 1 + 6*i, api.ErrShape
			}
		}
		return 1 + 6*many, 0, api.OK
	}
	var parts [3]int // Kind, Index, Term
	for i, part := range []struct{ at, width int }{{0, 1}, {1, 6}, {7, 6}} {
		n, ok := told(from+part.at, part.width)
		if !ok {
			return 0, from + part.at, api.ErrShape
		}
		parts[i] = n
	}
	body, e := list(from+13, 2, 1, 65535)
	if e != api.OK {
		return 0, from + 13, e
	}
	if parts[0] < 1 || parts[0] > 3 || parts[1] < 1 || body > 200 {
		return 0, from, api.ErrShape
	}
	return 15 + body, 0, api.OK
}

func TestReaderIsWhatTheChapterSays(t *testing.T) {
	d := &dice{3}
	for range 60_000 {
		b := stray(d)
		r := code.Read(b)
		for from := 0; ; {
			x, most := someThing(d), d.below(300)-1
			long, at, e := asked(x, most, b, from)
			switch x.sort {
			case 't':
				r.Text(most)
			case 'r':
				r.Row(most)
			default:
				x.get(r)
			}
			place, errno := r.Err()
			if place != at || errno != e {
				t.Fatalf("a %c of %v from %d on: at %d %d, not at %d %d", x.sort, b, from, place, errno, at, e)
			}
			if e != api.OK {
				break
			}
			from += long
			if r.Left() != len(b)-from {
				t.Fatalf("a %c of %v: left %d, not %d", x.sort, b, r.Left(), len(b)-from)
			}
		}
	}
}
