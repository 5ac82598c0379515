package dev

import (
	"limpet/api"
)

// write is bytes that wait to be a block's.
type write struct {
	n int
	block
}

// Write writes a block: b with noughts behind it.
func (d *Disk) Write(n int, b []byte) api.Errno {
	if err := d.takes(n, b); err != nil {
		return errno(err)
	}
	return errno(d.turn(func() { d.wait(n, b) }))
}

// Sync stores what waits.
func (d *Disk) Sync() api.Errno {
	if err := d.up(); err != nil {
		return errno(err)
	}
	return errno(d.turn(func() {
		d.settle(func(int) int { return blockSectors })
	}))
}

// Arm arms it: at the n-th turn from now on it goes down. By a number below 1 it is armed no more.
func (d *Disk) Arm(n int) {
	if d.up() == nil {
		d.left = max(n, 0)
	}
}

// takes is why a block can't be written so, if so.
func (d *Disk) takes(n int, b []byte) error {
	if err := d.reaches(n); err != nil {
		return err
	}
	if len(b) > api.Block {
		return errLong
	}
	return nil
}

// turn does one that is right, unless it is that for which the disk is armed.
func (d *Disk) turn(do func()) error {
	if d.left == 1 {
		d.fall()
		return refusal{turn: d.turns + 1, cause: errDown}
	}
	d.left = max(d.left-1, 0)
	d.turns++
	do()
	return nil
}

// wait has the write of a block wait.
func (d *Disk) wait(n int, b []byte) {
	w := write{n: n}
	copy(w.block[:], b)
	d.waiting = append(d.waiting, w)
	d.cells[n].last = len(d.waiting)
}

// settle stores of all that waits, in order, as many sectors as fate says of each; nothing waits then.
func (d *Disk) settle(fate func(i int) int) {
	for i, w := range d.waiting {
		d.store(w, fate(i))
		d.cells[w.n].last = 0
	}
	d.waiting = nil
}

// store stores so many of a write's first sectors.
func (d *Disk) store(w write, sectors int) {
	c := &d.cells[w.n]
	switch sectors {
	case blockSectors: // nothing stays of what may be hurt
		if c.hurt {
			c.hurt = false
			d.hurt--
		}
		fallthrough
	default:
		copy(c.block[:sectors*api.Sector], w.block[:])
	}
}
