package dev_test

import (
	"bytes"
	"math"
	"testing"

	"limpet/api"
	"limpet/dev"
)

// turns is how many syncs are told OK till one is told ErrDown; most of them at most.
func turns(t *testing.T, d *dev.Disk, most int) int {
	t.Helper()
	for i := range most {
		e := d.Sync()
		if e == api.ErrDown {
			return i
		}
		tells(t, "a turn", e, api.OK)
	}
	return most
}

// P3.2

func TestTheExample(t *testing.T) {
	for stay, want := range []byte{1, 2} {
		d := made(t, 1)
		d.Write(0, full(1))
		d.Sync()
		d.Write(0, full(2))
		d.Crash()
		tells(t, "wake", d.Wake(stay, -1, 0), api.OK)
		sees(t, "awake", d, 0, full(want))
		stores(t, "awake", d, 0, full(want))
	}
}

func TestArm(t *testing.T) {
	for _, c := range []struct {
		by   []int
		many int // turns that are done
	}{
		{nil, 50},
		{[]int{0}, 50}, {[]int{-1}, 50}, {[]int{math.MinInt}, 50}, {[]int{math.MaxInt}, 50},
		{[]int{51}, 50},
		{[]int{5, 3}, 2}, {[]int{3, 5}, 4}, {[]int{1, 0}, 50}, {[]int{2, -7}, 50}, {[]int{0, 4}, 3},
	} {
		d := made(t, 1)
		for _, n := range c.by {
			d.Arm(n)
		}
		done := 0
		for done < 50 && d.Write(0, full(1)) == api.OK {
			done++
		}
		if s := d.Stat(); done != c.many || s.Turns != done || s.Waiting != done || s.Down != (done < 50) {
			t.Errorf("armed by %v: %d turns, %+v", c.by, done, s)
		}
	}
}

func TestArmedForEachSortOfTurn(t *testing.T) {
	for n := 1; n <= 6; n++ { // write, sync, write, sync ..
		d := made(t, 2)
		d.Write(1, full(9))
		d.Arm(n)
		for i := 1; i <= 6; i++ {
			want := api.OK
			if i >= n {
				want = api.ErrDown
			}
			if i%2 == 1 {
				tells(t, "write", d.Write(0, full(byte(i))), want)
			} else {
				tells(t, "sync", d.Sync(), want)
			}
		}
		// ahead of its turn: that write does not wait, that sync stores nothing
		waiting := [7]int{0, 1, 2, 0, 1, 0, 1}[n]
		stat(t, "down", d, dev.Stat{Blocks: 2, Waiting: waiting, Turns: n, Crashes: 1, Down: true})
		stores(t, "down", d, 1, full([7]byte{0, 0, 0, 9, 9, 9, 9}[n]))
		stores(t, "down", d, 0, full([7]byte{0, 0, 0, 1, 1, 3, 3}[n]))
	}
}

func TestArmedAnewInBetween(t *testing.T) {
	d := made(t, 1)
	d.Arm(3)
	tells(t, "the first", d.Sync(), api.OK)
	d.Arm(3)
	tells(t, "the first of the new ones", d.Sync(), api.OK)
	tells(t, "the second", d.Sync(), api.OK)
	tells(t, "the third", d.Sync(), api.ErrDown)
	stat(t, "down", d, dev.Stat{Blocks: 1, Turns: 3, Crashes: 1, Down: true})
}

func TestArmOfOneThatIsDown(t *testing.T) {
	d := made(t, 1)
	d.Crash()
	d.Arm(1)
	tells(t, "wake", d.Wake(0, -1, 0), api.OK)
	if n := turns(t, d, 20); n != 20 {
		t.Errorf("armed while it was down: %d turns", n)
	}
}

func TestAWakeUnarms(t *testing.T) {
	d := made(t, 1)
	d.Arm(2)
	d.Crash()
	tells(t, "wake", d.Wake(0, -1, 0), api.OK)
	if n := turns(t, d, 20); n != 20 {
		t.Errorf("crashed ahead of it: %d turns", n)
	}
	d.Arm(2)
	if n := turns(t, d, 20); n != 1 {
		t.Errorf("%d turns", n)
	}
	tells(t, "wake", d.Wake(0, -1, 0), api.OK)
	if n := turns(t, d, 20); n != 20 {
		t.Errorf("gone down by it: %d turns", n)
	}
	tells(t, "wake of one that is up", d.Wake(-1, 0, 8), api.ErrKnown)
	d.Arm(1)
	tells(t, "wake of one that is armed", d.Wake(0, -1, 0), api.ErrKnown)
	if n := turns(t, d, 20); n != 0 {
		t.Errorf("unarmed by a wake that was none: %d turns", n)
	}
}

func TestWakeOfOneThatIsUp(t *testing.T) {
	d := made(t, 1)
	d.Write(0, full(1))
	tells(t, "up", d.Wake(-1, 0, 8), api.ErrKnown)
	sees(t, "up", d, 0, full(1))
	stores(t, "up", d, 0, full(0))
	stat(t, "up", d, dev.Stat{Blocks: 1, Waiting: 1, Turns: 1})
	d.Crash()
	tells(t, "down", d.Wake(0, -1, 0), api.OK)
	tells(t, "up again", d.Wake(1, -1, 0), api.ErrKnown)
	stores(t, "up again", d, 0, full(0))
}

// crashed is a disk that is down, of as many blocks as writes wait: full ones, a block each; below them are 200s.
func crashed(t *testing.T, writes int) *dev.Disk {
	t.Helper()
	d := made(t, writes)
	for n := range writes {
		d.Write(n, full(200))
	}
	d.Sync()
	for n := range writes {
		d.Write(n, full(byte(n+1)))
	}
	d.Crash()
	return d
}

// mixed is a block of 200s, of whose sectors the first ones are b.
func mixed(b byte, sectors int) []byte {
	return append(row(b, 32*sectors), row(200, 256-32*sectors)...)
}

func TestWhatStays(t *testing.T) {
	for _, stay := range []int{0, 1, 2, 3, 0b1011, 1 << 58, 1 << 59, 1 << 60, 1 << 61, 1<<60 - 1, 1<<60 + 2, math.MaxInt, -1, -2, math.MinInt, math.MinInt + 1} {
		d := crashed(t, 130)
		tells(t, "wake", d.Wake(stay, -1, 3), api.OK)
		for n := range 130 {
			want := mixed(byte(n+1), 0)
			if uint64(stay)>>(n%60)%2 == 1 {
				want = mixed(byte(n+1), 8)
			}
			stores(t, "stay", d, n, want)
			sees(t, "stay", d, n, want)
		}
		stat(t, "awake", d, dev.Stat{Blocks: 130, Turns: 261, Crashes: 1})
	}
}

func TestWhichIsTorn(t *testing.T) {
	for _, torn := range []int{math.MinInt, -60, -1, 0, 1, 2, 58, 59, 60, 61, 64, 69, 70, math.MaxInt} {
		for _, stay := range []int{0, -1, 1 << 1, 1<<60 - 1} {
			d := crashed(t, 70)
			tells(t, "wake", d.Wake(stay, torn, 5), api.OK)
			for n := range 70 {
				want := mixed(byte(n+1), 0)
				if uint64(stay)>>(n%60)%2 == 1 {
					want = mixed(byte(n+1), 8)
				}
				if n == torn {
					want = mixed(byte(n+1), 5)
				}
				stores(t, "torn", d, n, want)
			}
		}
	}
}

func TestHowManySectors(t *testing.T) {
	for sectors, want := range map[int]int{
		0: 0, 1: 1, 2: 2, 3: 3, 4: 4, 5: 5, 6: 6, 7: 7, 8: 8, 9: 0, 10: 1, 17: 8, 18: 0,
		-1: 8, -2: 7, -7: 2, -8: 1, -9: 0, -10: 8, -18: 0,
		math.MaxInt: 7, math.MaxInt - 7: 0, math.MinInt: 1, math.MinInt + 8: 0, // 2^63 modulo 9 is 8
	} {
		for _, stay := range []int{0, -1} {
			d := crashed(t, 1)
			tells(t, "wake", d.Wake(stay, 0, sectors), api.OK)
			stores(t, "torn", d, 0, mixed(1, want))
			stat(t, "awake", d, dev.Stat{Blocks: 1, Turns: 3, Crashes: 1})
		}
	}
}

func TestWritesOfOneBlockAreStoredInOrder(t *testing.T) {
	for _, c := range []struct {
		stay, torn, sectors int
		want                []byte
	}{
		{0, -1, 0, full(200)},
		{1, -1, 0, full(1)},
		{2, -1, 0, full(2)},
		{3, -1, 0, full(2)},
		{5, -1, 0, full(3)},
		{7, -1, 0, full(3)},
		{0, 1, 2, mixed(2, 2)},
		{1, 1, 2, append(row(2, 64), row(1, 192)...)},
		{4, 1, 2, full(3)},
		{4, 0, 7, full(3)},
		{7, 2, 1, append(row(3, 32), row(2, 224)...)},
		{3, 2, 0, full(2)},
		{2, 0, 4, full(2)},
	} {
		d := made(t, 1)
		d.Write(0, full(200))
		d.Sync()
		for b := range 3 {
			d.Write(0, full(byte(b+1)))
		}
		d.Crash()
		tells(t, "wake", d.Wake(c.stay, c.torn, c.sectors), api.OK)
		stores(t, "in order", d, 0, c.want)
		sees(t, "in order", d, 0, c.want)
	}
}

func TestAShortWriteIsStoredWithItsNoughts(t *testing.T) {
	for sectors := range 9 {
		d := made(t, 1)
		d.Write(0, full(200))
		d.Sync()
		d.Write(0, row(1, 40))
		d.Crash()
		d.Wake(0, 0, sectors)
		want := append(padded(row(1, 40))[:32*sectors], full(200)[32*sectors:]...)
		stores(t, "torn", d, 0, want)
	}
}

func TestAWriteWaitsNoMoreBehindAWake(t *testing.T) {
	d := crashed(t, 4)
	d.Wake(0b10, 0, 1)
	for range 2 {
		tells(t, "sync", d.Sync(), api.OK)
		for n, sectors := range []int{1, 8, 0, 0} {
			stores(t, "as it was stored", d, n, mixed(byte(n+1), sectors))
			sees(t, "as it was stored", d, n, mixed(byte(n+1), sectors))
		}
	}
	d.Crash()
	d.Wake(-1, -1, 0)
	stores(t, "what was lost stays so", d, 3, full(200))
	d.Write(2, full(7))
	sees(t, "a new one", d, 2, full(7))
	sees(t, "the one beside", d, 3, full(200))
}

// P3.6

func TestWhatIsSyncedIsStoredWhateverCrashes(t *testing.T) {
	for n := range 40 {
		d := made(t, 4)
		d.Arm(n)
		var synced [4]byte // of each block
		var put [4][]byte  // what waited for it since
		for b := byte(1); ; b++ {
			if d.Write(int(b%4), full(b)) != api.OK {
				break
			}
			put[b%4] = append(put[b%4], b)
			if b%5 == 0 {
				if d.Sync() != api.OK {
					break
				}
				for i, l := range put {
					if len(l) > 0 {
						synced[i] = l[len(l)-1]
					}
				}
				put = [4][]byte{}
			}
			if b == 60 {
				d.Crash()
				break
			}
		}
		for i := range 4 {
			stores(t, "down", d, i, full(synced[i]))
		}
		d.Wake(n*7, n%6, n)
		torn := 0
		for i := range 4 {
			b := d.Stored(i)
			for s := range 8 { // a sector is never torn
				if !bytes.Equal(b[32*s:][:32], row(b[32*s], 32)) {
					t.Errorf("armed by %d: a sector of %d is torn: %v", n, i, b)
				}
			}
			if !bytes.Equal(b, full(b[0])) {
				torn++
			}
			for _, c := range b {
				if c != synced[i] && bytes.IndexByte(put[i], c) < 0 {
					t.Errorf("armed by %d: of %d is stored %d, which is none of %d, %v", n, i, c, synced[i], put[i])
				}
			}
		}
		if torn > 1 {
			t.Errorf("armed by %d: %d are torn", n, torn)
		}
	}
}
