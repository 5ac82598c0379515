package unit

import (
	"limpet/api"
	"limpet/code"
	"limpet/mix"
)

// Where the parts of a block begin; each one ends where the next one begins.
const (
	kindAt  = 0
	numAt   = 1
	manyAt  = 7 // how many bytes the body has
	frontAt = 8 // the body's first bytes
	sumAt   = 28
	gapAt   = 32
	backAt  = 36 // the body's other bytes
	endAt   = api.Block - 1
)

// Widths of the fields of a block.
const (
	kindWidth = numAt - kindAt
	numWidth  = manyAt - numAt
	manyWidth = frontAt - manyAt
	sumWidth  = gapAt - sumAt
)

// frontBytes is how many bytes of a body lie ahead of the sum.
const frontBytes = sumAt - frontAt

// endMark is what stands at the end of a block whose body goes on behind the gap: one that was torn over noughts has none.
const endMark byte = 1

// field is a number, and how wide it is laid.
type field struct{ width, number int }

// laid is the bytes of fields, one behind the other.
func laid(fields ...field) []byte {
	var w code.Writer
	for _, f := range fields {
		w.Field(f.width, f.number)
	}
	b, _ := w.Bytes()
	return b
}

// parted is how many bytes of a body lie ahead of the sum, and how many behind the gap.
func parted(many int) (front, back int) {
	front = min(many, frontBytes)
	return front, many - front
}

// sumOf goes on from the end of a block to its beginning, so that a burst at the sum and ahead of it is one run of what is summed up.
func sumOf(b []byte) uint32 { return mix.Sum(b[backAt:], b[:sumAt]) }

// sealed is the block of a unit that is right.
func sealed(u api.Unit) []byte {
	b := make([]byte, api.Block)
	copy(b[kindAt:], laid(field{kindWidth, int(u.Kind)}, field{numWidth, u.Num}, field{manyWidth, len(u.Body)}))
	front, back := parted(len(u.Body))
	copy(b[frontAt:], u.Body[:front])
	if back > 0 {
		copy(b[backAt:], u.Body[front:])
		b[endAt] = endMark
	}
	copy(b[sumAt:], laid(field{sumWidth, int(sumOf(b))}))
	return b
}
