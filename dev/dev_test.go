package dev_test

import (
	"bytes"
	"math"
	"testing"

	"limpet/api"
	"limpet/dev"
)

// made is a disk of so many blocks.
func made(t *testing.T, blocks int) *dev.Disk {
	t.Helper()
	d, e := dev.New(blocks)
	if e != api.OK {
		t.Fatalf("a disk of %d blocks: %d", blocks, e)
	}
	return d
}

// row is so many bytes of one sort.
func row(b byte, many int) []byte { return bytes.Repeat([]byte{b}, many) }

// full is a block of one sort of bytes.
func full(b byte) []byte { return row(b, 256) }

// padded is b with noughts behind it, up to a block.
func padded(b []byte) []byte { return append(bytes.Clone(b), make([]byte, 256-len(b))...) }

// sees sees that these bytes are seen of a block.
func sees(t *testing.T, what string, d *dev.Disk, n int, want []byte) {
	t.Helper()
	if b, e := d.Read(n); e != api.OK || !bytes.Equal(b, want) {
		t.Errorf("%s: of %d is seen %v, %d, not %v", what, n, b, e, want)
	}
}

// stores sees that these bytes are stored of a block.
func stores(t *testing.T, what string, d *dev.Disk, n int, want []byte) {
	t.Helper()
	if b := d.Stored(n); !bytes.Equal(b, want) {
		t.Errorf("%s: of %d is stored %v, not %v", what, n, b, want)
	}
}

// tells sees that a call told what it should.
func tells(t *testing.T, what string, e, want api.Errno) {
	t.Helper()
	if e != want {
		t.Errorf("%s: told %d, not %d", what, e, want)
	}
}

// stat sees that this is what there is to say.
func stat(t *testing.T, what string, d *dev.Disk, want dev.Stat) {
	t.Helper()
	if s := d.Stat(); s != want {
		t.Errorf("%s: %+v, not %+v", what, s, want)
	}
}

// P3.1

func TestNew(t *testing.T) {
	for _, blocks := range []int{math.MinInt, -1, 0, 4097, 4098, math.MaxInt} {
		if d, e := dev.New(blocks); d != nil || e != api.ErrArg {
			t.Errorf("of %d blocks: %v, %d", blocks, d, e)
		}
	}
	for _, blocks := range []int{1, 2, 4095, 4096} {
		d := made(t, blocks)
		stat(t, "new", d, dev.Stat{Blocks: blocks})
		for n := range blocks {
			sees(t, "new", d, n, full(0))
			stores(t, "new", d, n, full(0))
		}
	}
}

func TestBlocksAtTheEnds(t *testing.T) {
	for _, blocks := range []int{1, 2, 3, 4096} {
		d := made(t, blocks)
		for _, n := range []int{math.MinInt, -1, blocks, blocks + 1, math.MaxInt} {
			if b, e := d.Read(n); len(b) != 0 || e != api.ErrArg {
				t.Errorf("read %d of %d: %v, %d", n, blocks, b, e)
			}
			tells(t, "a write beside", d.Write(n, full(1)), api.ErrArg)
			if b := d.Stored(n); len(b) != 0 {
				t.Errorf("stored of %d of %d: %v", n, blocks, b)
			}
		}
		stat(t, "nothing done", d, dev.Stat{Blocks: blocks})
		tells(t, "the first", d.Write(0, full(1)), api.OK)
		tells(t, "the last", d.Write(blocks-1, full(2)), api.OK)
		if blocks > 1 {
			sees(t, "the first", d, 0, full(1))
		}
		sees(t, "the last", d, blocks-1, full(2))
		for n := 1; n < blocks-1; n++ {
			sees(t, "between", d, n, full(0))
		}
	}
}

func TestWritesOfUnlikeLengths(t *testing.T) {
	d := made(t, 2)
	d.Write(1, full(9))
	for _, many := range []int{0, 1, 31, 32, 33, 255, 256} {
		tells(t, "as many as there are", d.Write(1, row(7, many)), api.OK)
		sees(t, "with noughts behind", d, 1, padded(row(7, many)))
		d.Write(1, full(9))
	}
	tells(t, "nothing", d.Write(1, nil), api.OK)
	sees(t, "nothing", d, 1, full(0))
	d.Write(1, full(9))
	for _, many := range []int{257, 258, 512, 65536} {
		tells(t, "too many", d.Write(1, row(7, many)), api.ErrArg)
	}
	sees(t, "the last one that was none too long", d, 1, full(9))
	sees(t, "the other one", d, 0, full(0))
	stat(t, "all", d, dev.Stat{Blocks: 2, Waiting: 17, Turns: 17})
}

func TestTheLastOfTheWritesThatWaitIsSeen(t *testing.T) {
	d := made(t, 3)
	for i := range 200 {
		n := i % 2
		tells(t, "one more", d.Write(n, full(byte(i+1))), api.OK)
		sees(t, "one more", d, n, full(byte(i+1)))
		if i > 0 {
			sees(t, "the other one", d, 1-n, full(byte(i)))
		}
	}
	for n := range 3 {
		stores(t, "nothing yet", d, n, full(0))
	}
	stat(t, "all wait", d, dev.Stat{Blocks: 3, Waiting: 200, Turns: 200})
	tells(t, "sync", d.Sync(), api.OK)
	for n, b := range []byte{199, 200, 0} {
		sees(t, "synced", d, n, full(b))
		stores(t, "synced", d, n, full(b))
	}
	stat(t, "nothing waits", d, dev.Stat{Blocks: 3, Turns: 201})
}

func TestSyncOfNothing(t *testing.T) {
	d := made(t, 2)
	for i := range 3 {
		tells(t, "nothing waits", d.Sync(), api.OK)
		stat(t, "nothing waits", d, dev.Stat{Blocks: 2, Turns: i + 1})
	}
	d.Write(1, full(3))
	d.Sync()
	tells(t, "again", d.Sync(), api.OK)
	stores(t, "again", d, 1, full(3))
	stat(t, "again", d, dev.Stat{Blocks: 2, Turns: 6})
}

func TestWritesBehindASync(t *testing.T) {
	d := made(t, 2)
	d.Write(0, full(1))
	d.Write(0, full(2))
	d.Sync()
	d.Write(1, full(3))
	sees(t, "the synced one", d, 0, full(2))
	sees(t, "the new one", d, 1, full(3))
	stores(t, "the new one", d, 1, full(0))
	d.Write(0, full(4))
	sees(t, "above the synced one", d, 0, full(4))
	stores(t, "the synced one", d, 0, full(2))
	stat(t, "two wait", d, dev.Stat{Blocks: 2, Waiting: 2, Turns: 5})
}

// P3.4

func TestStoredOfOneThatIsDown(t *testing.T) {
	d := made(t, 2)
	d.Write(0, full(1))
	d.Sync()
	d.Write(0, full(2))
	d.Write(1, full(3))
	d.Crash()
	stores(t, "down", d, 0, full(1))
	stores(t, "down", d, 1, full(0))
	if b := d.Stored(2); len(b) != 0 {
		t.Errorf("of no block: %v", b)
	}
	stat(t, "down", d, dev.Stat{Blocks: 2, Waiting: 2, Turns: 4, Crashes: 1, Down: true})
	d.Rot(0, 0, 2)
	d.Wipe(0)
	stores(t, "rotten", d, 0, append([]byte{3}, row(1, 255)...))
	d.Wake(3, -1, 0)
	stat(t, "awake", d, dev.Stat{Blocks: 2, Turns: 4, Crashes: 1})
	d.Crash()
	d.Wake(0, 0, 0)
	d.Crash()
	stat(t, "down again", d, dev.Stat{Blocks: 2, Turns: 4, Crashes: 3, Down: true})
}

func TestStatCountsTheHurt(t *testing.T) {
	d := made(t, 5)
	for n := range 5 {
		d.Write(n, full(1))
	}
	d.Sync()
	for n := range 5 {
		if n%2 == 0 {
			d.Rot(n, 0, 1)
		} else {
			d.Wipe(n)
		}
		if s := d.Stat(); s.Hurt != n+1 {
			t.Errorf("behind %d: %+v", n, s)
		}
	}
	d.Rot(0, 0, 1)
	d.Wipe(0)
	d.Write(1, full(2))
	stat(t, "a write that waits heals nothing", d, dev.Stat{Blocks: 5, Waiting: 1, Hurt: 5, Turns: 7})
	d.Write(1, full(3))
	d.Write(2, full(3))
	d.Sync()
	stat(t, "two are healed", d, dev.Stat{Blocks: 5, Hurt: 3, Turns: 10})
}

// P3.5

func TestNoDisk(t *testing.T) {
	real := made(t, 2)
	real.Write(0, full(1))
	copied := *real
	for what, d := range map[string]*dev.Disk{"nil": nil, "just there": {}, "a copy": &copied} {
		for _, n := range []int{-1, 0, 1, 2} {
			if b, e := d.Read(n); len(b) != 0 || e != api.ErrNil {
				t.Errorf("%s: read %v, %d", what, b, e)
			}
			for _, many := range []int{0, 256, 257} {
				tells(t, what+": write", d.Write(n, row(1, many)), api.ErrNil)
			}
			tells(t, what+": rot", d.Rot(n, 0, 1), api.ErrNil)
			tells(t, what+": rot", d.Rot(n, -1, 0), api.ErrNil)
			tells(t, what+": wipe", d.Wipe(n), api.ErrNil)
			if b := d.Stored(n); len(b) != 0 {
				t.Errorf("%s: stored %v", what, b)
			}
		}
		tells(t, what+": sync", d.Sync(), api.ErrNil)
		d.Arm(1)
		tells(t, what+": sync behind an arm", d.Sync(), api.ErrNil)
		tells(t, what+": wake", d.Wake(1, 1, 1), api.ErrNil)
		tells(t, what+": crash", d.Crash(), api.ErrNil)
		tells(t, what+": wake behind a crash", d.Wake(1, 1, 1), api.ErrNil)
		stat(t, what, d, dev.Stat{})
	}
	stat(t, "that which was copied", real, dev.Stat{Blocks: 2, Waiting: 1, Turns: 1})
	stores(t, "that which was copied", real, 0, full(0))
}

func TestDownAheadOfArg(t *testing.T) {
	d := made(t, 2)
	d.Write(1, full(1))
	tells(t, "crash", d.Crash(), api.OK)
	want := dev.Stat{Blocks: 2, Waiting: 1, Turns: 1, Crashes: 1, Down: true}
	for _, n := range []int{-1, 0, 1, 2} {
		if b, e := d.Read(n); len(b) != 0 || e != api.ErrDown {
			t.Errorf("read %d: %v, %d", n, b, e)
		}
		for _, many := range []int{0, 256, 257} {
			tells(t, "write", d.Write(n, row(2, many)), api.ErrDown)
		}
	}
	tells(t, "sync", d.Sync(), api.ErrDown)
	tells(t, "crash", d.Crash(), api.ErrDown)
	stat(t, "nothing is done", d, want)
	for _, n := range []int{-1, 2} {
		tells(t, "rot", d.Rot(n, 0, 1), api.ErrArg)
		tells(t, "wipe", d.Wipe(n), api.ErrArg)
	}
}

func TestAWriteThatMayNotBeIsNoTurn(t *testing.T) {
	d := made(t, 2)
	d.Arm(1)
	for range 3 {
		tells(t, "no block", d.Write(2, full(1)), api.ErrArg)
		tells(t, "no block", d.Write(-1, full(1)), api.ErrArg)
		tells(t, "too long", d.Write(0, row(1, 257)), api.ErrArg)
		d.Read(0)
		d.Read(2)
	}
	stat(t, "no turn", d, dev.Stat{Blocks: 2})
	tells(t, "the first turn", d.Write(0, full(1)), api.ErrDown)
	stat(t, "down", d, dev.Stat{Blocks: 2, Crashes: 1, Down: true})
}

// R3

func TestWhatIsHandedInIsNeitherChangedNorKept(t *testing.T) {
	d := made(t, 1)
	b := append(row(1, 100), row(2, 156)...)
	d.Write(0, b[:100])
	if !bytes.Equal(b, append(row(1, 100), row(2, 156)...)) {
		t.Error("changed")
	}
	clear(b)
	sees(t, "kept", d, 0, padded(row(1, 100)))
	d.Sync()
	b[0] = 9
	sees(t, "kept", d, 0, padded(row(1, 100)))
}

func TestWhatIsHandedOutIsNewMemory(t *testing.T) {
	d := made(t, 1)
	handed := func(what string, want []byte) {
		t.Helper()
		for range 2 {
			if b, _ := d.Read(0); len(b) == 256 {
				clear(append(b[:0], full(77)...))
			}
			clear(d.Stored(0))
		}
		sees(t, what, d, 0, want)
	}
	handed("nothing written", full(0))
	d.Write(0, full(5))
	handed("one waits", full(5))
	d.Sync()
	handed("one is stored", full(5))
	stores(t, "one is stored", d, 0, full(5))
	seen, _ := d.Read(0)
	stored := d.Stored(0)
	d.Write(0, full(6))
	d.Sync()
	if !bytes.Equal(seen, full(5)) || !bytes.Equal(stored, full(5)) {
		t.Error("what was handed out has changed")
	}
}
