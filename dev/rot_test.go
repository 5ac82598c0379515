package dev_test

import (
	"bytes"
	"math"
	"testing"

	"limpet/api"
	"limpet/dev"
)

// filled is a disk of three blocks, each of whose bytes is unlike those about it.
func filled(t *testing.T) *dev.Disk {
	t.Helper()
	d := made(t, 3)
	for n := range 3 {
		d.Write(n, pattern(n))
	}
	d.Sync()
	return d
}

func pattern(n int) []byte {
	b := make([]byte, 256)
	for i := range b {
		b[i] = byte(i*37 + n*11 + 1)
	}
	return b
}

// rotten is b, with the bits turned that the chapter tells, and how many these are.
func rotten(b []byte, bit int, mask uint32) ([]byte, int) {
	out, many := bytes.Clone(b), 0
	for i := range 32 {
		at := bit + i
		if at < 2048 && mask>>i&1 == 1 {
			out[at/8] ^= 1 << (at % 8)
			many++
		}
	}
	return out, many
}

// P3.3

func TestRotTurnsBits(t *testing.T) {
	for _, bit := range []int{0, 1, 7, 8, 9, 31, 32, 33, 255, 256, 1000, 2014, 2015, 2016, 2017, 2018, 2039, 2040, 2041, 2046, 2047} {
		for _, mask := range []uint32{0, 1, 2, 3, 0x80, 0x100, 0x8001, 0xFFFF, 0x12345678, 0x7FFFFFFF, 0x80000000, 0xFFFFFFFE, 0xFFFFFFFF} {
			d := filled(t)
			want, many := rotten(pattern(1), bit, mask)
			told, hurt := api.OK, 1
			if many == 0 {
				told, hurt = api.ErrArg, 0
			}
			tells(t, "rot", d.Rot(1, bit, mask), told)
			stores(t, "rot", d, 1, want)
			sees(t, "rot", d, 1, want)
			for _, n := range []int{0, 2} {
				stores(t, "beside", d, n, pattern(n))
			}
			stat(t, "rot", d, dev.Stat{Blocks: 3, Hurt: hurt, Turns: 4})
		}
	}
}

func TestRotOfTheEnds(t *testing.T) {
	for _, c := range []struct {
		bit  int
		mask uint32
		at   int
		want []byte // from at on, of noughts
	}{
		{0, 1, 0, []byte{1, 0}},
		{7, 1, 0, []byte{0x80, 0}},
		{8, 1, 0, []byte{0, 1}},
		{4, 0xFF, 0, []byte{0xF0, 0x0F, 0}},
		{3, 0xFFFFFFFF, 0, []byte{0xF8, 0xFF, 0xFF, 0xFF, 0x07, 0}},
		{2047, 1, 254, []byte{0, 0x80}},
		{2047, 0xFFFFFFFF, 254, []byte{0, 0x80}},
		{2044, 0xFFFFFFFF, 254, []byte{0, 0xF0}},
		{2016, 0xFFFFFFFF, 251, []byte{0, 0xFF, 0xFF, 0xFF, 0xFF}},
		{2020, 0x80000001, 251, []byte{0, 0x10, 0, 0, 0}},
	} {
		d := made(t, 1)
		tells(t, "rot", d.Rot(0, c.bit, c.mask), api.OK)
		want := full(0)
		copy(want[c.at:], c.want)
		stores(t, "rot", d, 0, want)
	}
}

func TestRotOfWhatIsNotThere(t *testing.T) {
	d := filled(t)
	for _, n := range []int{math.MinInt, -1, 3, math.MaxInt} {
		tells(t, "no block", d.Rot(n, 0, 1), api.ErrArg)
	}
	for _, bit := range []int{math.MinInt, -32, -1, 2048, 2049, math.MaxInt - 1, math.MaxInt} {
		tells(t, "no bit", d.Rot(0, bit, 0xFFFFFFFF), api.ErrArg)
	}
	for _, bit := range []int{0, 2016, 2047} {
		tells(t, "nothing", d.Rot(0, bit, 0), api.ErrArg)
	}
	tells(t, "behind the end", d.Rot(0, 2047, 0xFFFFFFFE), api.ErrArg)
	tells(t, "behind the end", d.Rot(0, 2017, 0x80000000), api.ErrArg)
	stat(t, "nothing done", d, dev.Stat{Blocks: 3, Turns: 4})
	stores(t, "nothing done", d, 0, pattern(0))
}

func TestOfAHurtBlock(t *testing.T) {
	for _, hurt := range []func(d *dev.Disk) api.Errno{
		func(d *dev.Disk) api.Errno { return d.Rot(1, 100, 7) },
		func(d *dev.Disk) api.Errno { return d.Wipe(1) },
	} {
		d := filled(t)
		tells(t, "hurt", hurt(d), api.OK)
		was := d.Stored(1)
		wiped := api.ErrKnown
		if bytes.Equal(was, full(0)) {
			wiped = api.ErrArg // ahead of ErrKnown
		}
		for range 2 {
			tells(t, "rot", d.Rot(1, 0, 1), api.ErrKnown)
			tells(t, "rot of nothing", d.Rot(1, 0, 0), api.ErrArg)
			tells(t, "rot of no bit", d.Rot(1, 2048, 1), api.ErrArg)
			tells(t, "rot back", d.Rot(1, 100, 7), api.ErrKnown)
			tells(t, "wipe", d.Wipe(1), wiped)
		}
		stores(t, "hurt", d, 1, was)
		stat(t, "hurt", d, dev.Stat{Blocks: 3, Hurt: 1, Turns: 4})
		tells(t, "another one", d.Rot(2, 0, 1), api.OK)
		tells(t, "another one", d.Wipe(0), api.OK)
		stat(t, "all are", d, dev.Stat{Blocks: 3, Hurt: 3, Turns: 4})
	}
}

func TestWipe(t *testing.T) {
	d := filled(t)
	for _, n := range []int{math.MinInt, -1, 3, math.MaxInt} {
		tells(t, "no block", d.Wipe(n), api.ErrArg)
	}
	for n := range 3 {
		tells(t, "wipe", d.Wipe(n), api.OK)
		stores(t, "wipe", d, n, full(0))
		sees(t, "wipe", d, n, full(0))
	}
	stat(t, "wiped", d, dev.Stat{Blocks: 3, Hurt: 3, Turns: 4})
	for _, at := range []int{0, 255} { // one byte is enough
		d := made(t, 1)
		tells(t, "noughts", d.Wipe(0), api.ErrArg)
		b := full(0)
		b[at] = 0x80
		d.Write(0, b)
		tells(t, "noughts, above which one waits", d.Wipe(0), api.ErrArg)
		d.Sync()
		tells(t, "no noughts", d.Wipe(0), api.OK)
		stores(t, "wiped", d, 0, full(0))
	}
}

func TestABlockThatRottedToNoughts(t *testing.T) {
	d := made(t, 1)
	d.Write(0, []byte{0x10})
	d.Sync()
	tells(t, "rot", d.Rot(0, 4, 1), api.OK)
	stores(t, "rot", d, 0, full(0))
	tells(t, "wipe", d.Wipe(0), api.ErrArg)
	stat(t, "rot", d, dev.Stat{Blocks: 1, Hurt: 1, Turns: 2})
}

func TestRotIsBelowWhatWaits(t *testing.T) {
	d := filled(t)
	d.Write(0, full(9))
	d.Write(1, full(9))
	tells(t, "rot", d.Rot(0, 0, 1), api.OK)
	tells(t, "wipe", d.Wipe(1), api.OK)
	for n := range 2 {
		sees(t, "what waits", d, n, full(9))
	}
	want, _ := rotten(pattern(0), 0, 1)
	stores(t, "rot", d, 0, want)
	stores(t, "wipe", d, 1, full(0))
	d.Crash()
	d.Wake(0, -1, 0)
	sees(t, "rot", d, 0, want)
	sees(t, "wipe", d, 1, full(0))
	stat(t, "both stay hurt", d, dev.Stat{Blocks: 3, Hurt: 2, Turns: 6, Crashes: 1})
}

func TestRotOfOneThatIsDown(t *testing.T) {
	d := filled(t)
	d.Crash()
	want, _ := rotten(pattern(0), 12, 0x11)
	tells(t, "rot", d.Rot(0, 12, 0x11), api.OK)
	tells(t, "wipe", d.Wipe(1), api.OK)
	tells(t, "rot again", d.Rot(0, 12, 0x11), api.ErrKnown)
	tells(t, "wipe again", d.Wipe(0), api.ErrKnown)
	tells(t, "rot of nothing", d.Rot(2, 12, 0), api.ErrArg)
	tells(t, "wipe of noughts", d.Wipe(1), api.ErrArg)
	stores(t, "rot", d, 0, want)
	stores(t, "wipe", d, 1, full(0))
	stat(t, "down", d, dev.Stat{Blocks: 3, Hurt: 2, Turns: 4, Crashes: 1, Down: true})
	d.Wake(0, -1, 0)
	sees(t, "awake", d, 0, want)
	stat(t, "awake", d, dev.Stat{Blocks: 3, Hurt: 2, Turns: 4, Crashes: 1})
}

func TestRotIsNoTurn(t *testing.T) {
	d := filled(t)
	d.Arm(1)
	tells(t, "rot", d.Rot(0, 0, 1), api.OK)
	tells(t, "wipe", d.Wipe(1), api.OK)
	stat(t, "up", d, dev.Stat{Blocks: 3, Hurt: 2, Turns: 4})
	tells(t, "sync", d.Sync(), api.ErrDown)
}

func TestAHurtBlockThatIsStoredAnew(t *testing.T) {
	for _, c := range []struct {
		stay, torn, sectors int
		kept                int // sectors of what was hurt
		hurt                int
	}{
		{0, -1, 0, 8, 1}, // lost
		{1, -1, 0, 0, 0}, // whole
		{0, 0, 8, 0, 0},
		{0, 0, 17, 0, 0},
		{0, 0, -1, 0, 0},
		{0, 0, 0, 8, 1},
		{1, 0, 0, 8, 1},
		{0, 0, 1, 7, 1},
		{0, 0, 7, 1, 1},
		{1, 0, 7, 1, 1},
	} {
		d := filled(t)
		d.Rot(1, 2047, 1)
		was := d.Stored(1)
		d.Write(1, full(9))
		d.Crash()
		d.Wake(c.stay, c.torn, c.sectors)
		stores(t, "in part", d, 1, append(row(9, 32*(8-c.kept)), was[32*(8-c.kept):]...))
		stat(t, "in part", d, dev.Stat{Blocks: 3, Hurt: c.hurt, Turns: 5, Crashes: 1})
		told := api.OK
		if c.hurt == 1 {
			told = api.ErrKnown
		}
		tells(t, "rot again", d.Rot(1, 0, 1), told)
		tells(t, "write", d.Write(1, nil), api.OK)
		tells(t, "sync", d.Sync(), api.OK)
		stat(t, "whole", d, dev.Stat{Blocks: 3, Turns: 7, Crashes: 1})
		tells(t, "rot of one that is whole again", d.Rot(1, 0, 1), api.OK)
	}
}

func TestTornAboveWhole(t *testing.T) {
	d := filled(t)
	d.Wipe(0)
	d.Write(0, full(8)) // whole: it heals
	d.Write(0, full(9)) // torn, but the block was healed
	d.Crash()
	d.Wake(1, 1, 2)
	stores(t, "both", d, 0, append(row(9, 64), row(8, 192)...))
	stat(t, "both", d, dev.Stat{Blocks: 3, Turns: 6, Crashes: 1})
}
