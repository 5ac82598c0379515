package code

import (
	"bytes"
	"errors"

	"limpet/api"
)

// Reader goes through bytes. It is what Read tells: one that is just there is none.
type Reader struct {
	place
	told bool
	err  error // the first one, a fault; it stays
}

// Read is a reader of bytes.
func Read(b []byte) *Reader {
	return &Reader{place: place{all: bytes.Clone(b)}, told: true}
}

// Field gets a field.
func (r *Reader) Field(width int) int {
	if !r.going() {
		return 0
	}
	most := greatest(width)
	if most < 0 {
		r.fail(r.at, errWidth)
		return 0
	}
	if width > r.left() {
		r.fail(r.at, errFew)
		return 0
	}
	n := number(r.next(width))
	if n > most {
		r.fail(r.at, errGreat)
		return 0
	}
	r.pass(width)
	return n
}

// Text gets a text of most bytes at most.
func (r *Reader) Text(most int) []byte {
	many := r.count(textWidth, most, 1)
	if many == 0 {
		return nil
	}
	b := bytes.Clone(r.next(many))
	r.pass(many)
	return b
}

// Row gets a row of most numbers at most.
func (r *Reader) Row(most int) []int {
	many := r.count(rowWidth, most, numWidth)
	if many == 0 {
		return nil
	}
	l := make([]int, many)
	for i := range l {
		l[i] = r.Field(numWidth)
	}
	if !r.going() {
		return nil
	}
	return l
}

// Entry gets an entry.
func (r *Reader) Entry() api.Entry {
	if !r.going() {
		return api.Entry{}
	}
	start := r.at
	e := api.Entry{Kind: api.EntryKind(r.Field(kindWidth))}
	e.Index, e.Term = r.Field(numWidth), r.Field(numWidth)
	e.Body = r.Text(longest) // not MaxEntry: of a body that is longer it is the entry that is not right
	if !r.going() {
		return api.Entry{}
	}
	if !Right(e) {
		r.fail(start, errEntry)
		return api.Entry{}
	}
	return e
}

// Left is how many bytes are left; none with an error.
func (r *Reader) Left() int {
	if !r.going() {
		return 0
	}
	return r.left()
}

// Err is its error, and where.
func (r *Reader) Err() (at int, e api.Errno) {
	if r == nil || !r.told {
		return 0, api.ErrNil
	}
	var f fault
	if errors.As(r.err, &f) {
		return f.at, f.errno()
	}
	return 0, api.OK
}

// count gets how many parts, of so many bytes each, a text or a row has, and sees that they are there; 0 with an error.
func (r *Reader) count(width, most, each int) int {
	if !r.going() {
		return 0
	}
	start := r.at
	many := r.Field(width)
	if !r.going() {
		return 0
	}
	if many > most {
		r.fail(start, errMuch)
		return 0
	}
	if many*each > r.left() {
		r.fail(start, errFew)
		return 0
	}
	return many
}

// going says whether it is a reader, and has no error yet.
func (r *Reader) going() bool { return r != nil && r.told && r.err == nil }

func (r *Reader) fail(at int, cause error) { r.err = fault{at: at, cause: cause} }
