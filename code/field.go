package code

import (
	"limpet/api"
)

// Widths of the fields that others are made of.
const (
	kindWidth = 1 // an entry's Kind
	textWidth = 2 // how many bytes a text has
	rowWidth  = 1 // how many numbers a row has
	numWidth  = 6 // a number of a row, an Index, a Term
)

// longest is how many bytes a text can have.
const longest = 1<<(8*textWidth) - 1

// greatest is the greatest number of a field; below 0 of a width that is none.
func greatest(width int) int {
	switch width {
	case 1, 2, 4:
		return 1<<(8*width) - 1
	case 6:
		return api.MaxNum
	}
	return -1
}

// lay puts a number into a field, which has as many bytes as it is wide.
func lay(field []byte, n int) {
	switch len(field) {
	case 6:
		field[5], field[4] = byte(n>>40), byte(n>>32)
		fallthrough
	case 4:
		field[3], field[2] = byte(n>>24), byte(n>>16)
		fallthrough
	case 2:
		field[1] = byte(n >> 8)
		fallthrough
	case 1:
		field[0] = byte(n)
	}
}

// number is what a field's bytes tell, be it above the greatest one or not.
func number(field []byte) int {
	n := 0
	switch len(field) {
	case 6:
		n |= int(field[5])<<40 | int(field[4])<<32
		fallthrough
	case 4:
		n |= int(field[3])<<24 | int(field[2])<<16
		fallthrough
	case 2:
		n |= int(field[1]) << 8
		fallthrough
	case 1:
		n |= int(field[0])
	}
	return n
}
