package dev

import (
	"limpet/api"
)

// Rot turns bits of what is stored of a block: those from bit on that are set in mask.
func (d *Disk) Rot(n, bit int, mask uint32) api.Errno {
	return errno(d.spoil(n, func(b *block) { b.flip(bit, mask) }))
}

// Wipe makes what is stored of a block noughts.
func (d *Disk) Wipe(n int) api.Errno {
	return errno(d.spoil(n, func(b *block) { *b = block{} }))
}

// spoil makes another of what is stored of a block, which is hurt then.
func (d *Disk) spoil(n int, change func(b *block)) error {
	if !d.told() {
		return errNil
	}
	if !d.has(n) {
		return errBlock
	}
	c := &d.cells[n]
	spoilt := c.block
	change(&spoilt)
	switch {
	case spoilt == c.block:
		return errSame
	case c.hurt:
		return errHurt
	}
	c.block, c.hurt = spoilt, true
	d.hurt++
	return nil
}
