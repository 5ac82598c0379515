package code

import (
	"bytes"
	"slices"

	"limpet/api"
)

// Writer is bytes that are put. One that is just there is empty.
type Writer struct {
	last   *piece
	spoilt bool
}

// piece is bytes that were put at once, and those ahead of them. It never changes, as a copy of a writer shares it and goes on by itself.
type piece struct {
	ahead *piece
	own   []byte
}

// Field puts each number's bytes.
func (w *Writer) Field(width int, numbers ...int) {
	if !w.whole() {
		return
	}
	most := greatest(width)
	if most < 0 {
		w.spoil()
		return
	}
	b := make([]byte, width*len(numbers))
	for i, n := range numbers {
		if n < 0 || n > most {
			w.spoil()
			return
		}
		lay(b[i*width:][:width], n)
	}
	w.add(b)
}

// Text puts a text.
func (w *Writer) Text(b []byte) {
	w.Field(textWidth, len(b))
	if w.whole() {
		w.add(bytes.Clone(b))
	}
}

// Row puts a row.
func (w *Writer) Row(l []int) {
	w.Field(rowWidth, len(l))
	w.Field(numWidth, l...)
}

// Entry puts an entry.
func (w *Writer) Entry(e api.Entry) {
	if !w.whole() {
		return
	}
	if !Right(e) {
		w.spoil()
		return
	}
	w.Field(kindWidth, int(e.Kind))
	w.Field(numWidth, e.Index, e.Term)
	w.Text(e.Body)
}

// Bytes is what was put; none and false, if something could not be.
func (w *Writer) Bytes() ([]byte, bool) {
	if !w.whole() {
		return nil, false
	}
	var rows [][]byte
	for p := w.last; p != nil; p = p.ahead {
		rows = append(rows, p.own)
	}
	slices.Reverse(rows)
	return slices.Concat(rows...), true
}

// whole says whether it is a writer, and not spoilt.
func (w *Writer) whole() bool { return w != nil && !w.spoilt }

// add keeps b: it must be the writer's alone.
func (w *Writer) add(b []byte) {
	if len(b) > 0 {
		w.last = &piece{ahead: w.last, own: b}
	}
}

func (w *Writer) spoil() { *w = Writer{spoilt: true} }
