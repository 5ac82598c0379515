package dev

import (
	"limpet/api"
)

// stayBits is how many bits tell what stays of the writes that wait.
const stayBits = 60

// Crash takes it down.
func (d *Disk) Crash() api.Errno {
	if err := d.up(); err != nil {
		return errno(err)
	}
	d.fall()
	return api.OK
}

// Wake wakes it: what waits is stored or lost as stay says, but of the write torn its first sectors are stored.
func (d *Disk) Wake(stay, torn, sectors int) api.Errno {
	switch {
	case !d.told():
		return api.ErrNil
	case !d.down:
		return api.ErrKnown
	}
	part := modulo(sectors, blockSectors+1)
	d.settle(func(i int) int {
		switch {
		case i == torn:
			return part
		case stay>>(i%stayBits)&1 == 1:
			return blockSectors
		}
		return 0
	})
	d.left, d.down = 0, false
	return api.OK
}

func (d *Disk) fall() {
	d.down = true
	d.crashes++
}

// modulo is from 0 to below by, of numbers below 0 too.
func modulo(n, by int) int { return (n%by + by) % by }
