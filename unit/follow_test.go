package unit_test

import (
	"bytes"
	"testing"

	"limpet/api"
	"limpet/dev"
	"limpet/unit"
)

// disk is one of a block, on which these bytes are stored.
func disk(t *testing.T, b []byte) *dev.Disk {
	t.Helper()
	d, e := dev.New(1)
	if e != api.OK {
		t.Fatal(e)
	}
	stores(t, d, b)
	return d
}

func stores(t *testing.T, d *dev.Disk, b []byte) {
	t.Helper()
	if e := d.Write(0, b); e != api.OK {
		t.Fatal(e)
	}
	if e := d.Sync(); e != api.OK {
		t.Fatal(e)
	}
}

// tears stores the first sectors of b.
func tears(t *testing.T, d *dev.Disk, b []byte, sectors int) {
	t.Helper()
	if e := d.Write(0, b); e != api.OK {
		t.Fatal(e)
	}
	if e := d.Crash(); e != api.OK {
		t.Fatal(e)
	}
	if e := d.Wake(0, 0, sectors); e != api.OK {
		t.Fatal(e)
	}
}

func seen(t *testing.T, d *dev.Disk) []byte {
	t.Helper()
	b, e := d.Read(0)
	if e != api.OK {
		t.Fatal(e)
	}
	return b
}

// shut sees that what is seen is opened, neither plainly nor as what it was.
func shut(t *testing.T, what string, d *dev.Disk, u api.Unit) {
	t.Helper()
	b := seen(t, d)
	if got, e := unit.Open(b); e == api.OK || !same(got, api.Unit{}) {
		t.Fatalf("%s: %v is opened: %v, %d", what, b, got, e)
	}
	if body, e := unit.As(b, u.Kind, -1); e == api.OK || len(body) != 0 {
		t.Fatalf("%s: %v is opened: %v, %d", what, b, body, e)
	}
}

// shows sees that the block of a unit is seen, and opened.
func shows(t *testing.T, what string, d *dev.Disk, u api.Unit) {
	t.Helper()
	if got, e := unit.Open(seen(t, d)); e != api.OK || !same(got, u) {
		t.Fatalf("%s: %v, %d, not %v", what, got, e, u)
	}
}

// bursts are masks: all that are six bits long at most, and of each length up to 32 some others.
func bursts() []uint32 {
	var l []uint32
	for mask := uint32(1); mask < 1<<6; mask += 2 {
		l = append(l, mask)
	}
	roll := &dice{3}
	for long := 7; long <= 32; long++ {
		ends := uint32(1) | 1<<(long-1)
		inner := uint32(1)<<(long-1) - 1
		l = append(l, ends, ends|inner, ends|uint32(roll.below(1<<32))&inner)
	}
	return append(l, 0x82F63B78, 0x05EC76F1) // as much of the divisor as 32 bits hold
}

// hurtUnits are units whose bytes lie, and end, at all sorts of places.
func hurtUnits() []api.Unit {
	return []api.Unit{
		{Kind: 1, Num: 0},
		{Kind: 2, Num: 1, Body: []byte("a")},
		{Kind: 4, Num: 1 << 40, Body: text(20)},
		{Kind: 5, Num: 77, Body: text(21)},
		{Kind: 6, Num: 3, Body: make([]byte, 100)},
		{Kind: 8, Num: 1<<40 - 1, Body: text(239)},
	}
}

// P4.4

func TestABurstIsSeen(t *testing.T) {
	for _, u := range hurtUnits() {
		whole := blockOf(u)
		d := disk(t, whole)
		for i, mask := range bursts() {
			for bit := range 2048 {
				if mask >= 1<<6 && (bit+i)%3 != 0 {
					continue // there are too many to take a long one at each place
				}
				if e := d.Rot(0, bit, mask); e == api.ErrArg {
					continue // it turns nothing: it lies behind the end
				}
				shut(t, "with a burst", d, u)
				stores(t, d, whole)
			}
		}
		shows(t, "stored anew", d, u)
	}
}

func TestAWipeIsSeen(t *testing.T) {
	for _, u := range hurtUnits() {
		d := disk(t, blockOf(u))
		if e := d.Wipe(0); e != api.OK {
			t.Fatal(e)
		}
		shut(t, "wiped", d, u)
	}
}

func TestTornOverNoughts(t *testing.T) {
	for many := range 240 {
		for _, body := range [][]byte{text(many), make([]byte, many)} {
			u := api.Unit{Kind: 5, Num: 6, Body: body}
			for sectors := range 9 {
				d := disk(t, nil)
				tears(t, d, blockOf(u), sectors)
				if sectors == 8 || sectors > 0 && many <= 20 {
					shows(t, "stored", d, u)
					continue
				}
				shut(t, "torn", d, u)
			}
		}
	}
}

func TestASmallOneTornOverAnother(t *testing.T) {
	for _, many := range []int{0, 1, 19, 20} {
		for _, other := range []int{0, 1, 19, 20} {
			was := api.Unit{Kind: 1, Num: 6, Body: text(many)}
			is := api.Unit{Kind: 1, Num: 7, Body: bytes.Repeat([]byte{9}, other)}
			for sectors := range 9 {
				d := disk(t, blockOf(was))
				tears(t, d, blockOf(is), sectors)
				if sectors == 0 {
					shows(t, "lost", d, was)
					continue
				}
				shows(t, "stored", d, is)
			}
		}
	}
}

// A block with a burst, over which it is written again, and torn: what the first sectors don't heal is seen.
func TestTornOverItselfWithABurst(t *testing.T) {
	for _, u := range hurtUnits() {
		whole := blockOf(u)
		for i, mask := range bursts() {
			for bit := i % 8; bit < 2048; bit += 8 {
				near := bit%256 >= 224 || bit%256 < 8 // over the border of two sectors, or about it
				if !near && bit%7 != 0 {
					continue
				}
				sectors := (bit/256 + 9 + i%3) % 9 // up to the burst, through its middle, behind it
				d := disk(t, whole)
				if e := d.Rot(0, bit, mask); e == api.ErrArg {
					continue
				}
				tears(t, d, whole, sectors)
				if bytes.Equal(seen(t, d), whole) {
					shows(t, "healed", d, u)
					continue
				}
				shut(t, "with what is left of a burst", d, u)
			}
		}
	}
}

func TestAllSectorsOverItselfWithABurst(t *testing.T) {
	for _, u := range hurtUnits() {
		whole := blockOf(u)
		for border := 0; border <= 2048; border += 256 {
			for _, mask := range []uint32{1, 1 << 31, 0x80000001, 0xFFFFFFFF, 0x00018001} {
				for _, ahead := range []int{31, 17, 16, 15, 1, 0} {
					for sectors := range 9 {
						d := disk(t, whole)
						if e := d.Rot(0, border-ahead, mask); e != api.OK {
							continue
						}
						tears(t, d, whole, sectors)
						if bytes.Equal(seen(t, d), whole) {
							shows(t, "healed", d, u)
							continue
						}
						shut(t, "with what is left of a burst", d, u)
					}
				}
			}
		}
	}
}
