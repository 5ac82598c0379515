package dev

import (
	"limpet/api"
)

const (
	blockBits    = api.Block * 8
	blockSectors = api.Block / api.Sector
)

type block [api.Block]byte

// cell is a block of a disk.
type cell struct {
	block      // what is stored
	hurt  bool // by rot, or a wipe
	last  int  // the last of the writes that wait for it, counted from 1; 0: there is none
}

// flip turns the bits of a block from bit on that are set in mask, as many as there are; none, if there is no bit.
func (b *block) flip(bit int, mask uint32) {
	if bit < 0 || bit >= blockBits {
		return
	}
	for i := range min(32, blockBits-bit) {
		at := bit + i
		b[at/8] ^= byte(mask>>i&1) << (at % 8)
	}
}
