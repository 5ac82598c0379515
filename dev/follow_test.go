package dev_test

import (
	"bytes"
	"testing"

	"limpet/api"
	"limpet/dev"
)

// dice are numbers that look like chance, and are the same each time.
type dice struct{ seed uint64 }

// below is a number from 0 to below n.
func (d *dice) below(n int) int {
	d.seed += 0x9E3779B97F4A7C15
	x := d.seed
	x = (x ^ x>>30) * 0xBF58476D1CE4E5B9
	x = (x ^ x>>27) * 0x94D049BB133111EB
	return int((x ^ x>>31) % uint64(n))
}

// telling is a disk by the chapter's words, one by one: each bit for itself, each write gone through anew.
type telling struct {
	stored [][]byte
	hurt   []bool
	writes []waits
	armed  int // turns till it goes down; 0: not
	stat   dev.Stat
}

type waits struct {
	n int
	b []byte
}

func newTelling(blocks int) *telling {
	w := &telling{hurt: make([]bool, blocks)}
	for range blocks {
		w.stored = append(w.stored, full(0))
	}
	w.stat.Blocks = blocks
	return w
}

func (w *telling) has(n int) bool { return n >= 0 && n < len(w.stored) }

func (w *telling) read(n int) ([]byte, api.Errno) {
	if w.stat.Down {
		return nil, api.ErrDown
	}
	if !w.has(n) {
		return nil, api.ErrArg
	}
	seen := w.stored[n]
	for _, x := range w.writes {
		if x.n == n {
			seen = x.b
		}
	}
	return seen, api.OK
}

// turn says whether one is done.
func (w *telling) turn() bool {
	if w.armed > 0 {
		w.armed--
		if w.armed == 0 {
			w.stat.Down = true
			w.stat.Crashes++
			return false
		}
	}
	w.stat.Turns++
	return true
}

func (w *telling) write(n int, b []byte) api.Errno {
	switch {
	case w.stat.Down:
		return api.ErrDown
	case !w.has(n) || len(b) > 256:
		return api.ErrArg
	case !w.turn():
		return api.ErrDown
	}
	w.writes = append(w.writes, waits{n, padded(b)})
	return api.OK
}

func (w *telling) sync() api.Errno {
	if w.stat.Down || !w.turn() {
		return api.ErrDown
	}
	for _, x := range w.writes {
		w.store(x, 8)
	}
	w.writes = nil
	return api.OK
}

func (w *telling) store(x waits, sectors int) {
	for i := range 32 * sectors {
		w.stored[x.n][i] = x.b[i]
	}
	if sectors == 8 {
		w.hurt[x.n] = false
	}
}

func (w *telling) arm(n int) {
	if !w.stat.Down {
		w.armed = max(n, 0)
	}
}

func (w *telling) crash() api.Errno {
	if w.stat.Down {
		return api.ErrDown
	}
	w.stat.Down = true
	w.stat.Crashes++
	return api.OK
}

func (w *telling) wake(stay, torn, sectors int) api.Errno {
	if !w.stat.Down {
		return api.ErrKnown
	}
	for sectors < 0 {
		sectors += 9
	}
	for i, x := range w.writes {
		if i == torn {
			w.store(x, sectors%9)
		} else if stay&(1<<(i%60)) != 0 {
			w.store(x, 8)
		}
	}
	w.writes, w.armed, w.stat.Down = nil, 0, false
	return api.OK
}

func (w *telling) rot(n, bit int, mask uint32) api.Errno {
	if !w.has(n) || bit < 0 || bit > 2047 {
		return api.ErrArg
	}
	b, many := rotten(w.stored[n], bit, mask)
	switch {
	case many == 0:
		return api.ErrArg
	case w.hurt[n]:
		return api.ErrKnown
	}
	w.stored[n], w.hurt[n] = b, true
	return api.OK
}

func (w *telling) wipe(n int) api.Errno {
	switch {
	case !w.has(n) || bytes.Equal(w.stored[n], full(0)):
		return api.ErrArg
	case w.hurt[n]:
		return api.ErrKnown
	}
	w.stored[n], w.hurt[n] = full(0), true
	return api.OK
}

func (w *telling) says() dev.Stat {
	s := w.stat
	s.Waiting = len(w.writes)
	for _, hurt := range w.hurt {
		if hurt {
			s.Hurt++
		}
	}
	return s
}

// step does the same with both, and sees that they tell the same.
func step(t *testing.T, at int, roll *dice, d *dev.Disk, w *telling) {
	t.Helper()
	n := roll.below(len(w.stored)+2) - 1
	var e, want api.Errno
	sort := roll.below(20)
	switch sort {
	default:
		b := row(byte(roll.below(4)), roll.below(260))
		for i := range b {
			b[i] += byte(i / 20)
		}
		e, want = d.Write(n, b), w.write(n, b)
	case 0, 1:
		e, want = d.Sync(), w.sync()
	case 2:
		by := roll.below(9) - 2
		d.Arm(by)
		w.arm(by)
	case 3:
		e, want = d.Crash(), w.crash()
	case 4, 5, 6:
		stay := roll.below(1<<62) - roll.below(2)<<62
		torn, sectors := roll.below(12)-2, roll.below(40)-20
		e, want = d.Wake(stay, torn, sectors), w.wake(stay, torn, sectors)
	case 7, 8:
		bit, mask := roll.below(2100)-26, uint32(roll.below(1<<32))>>roll.below(33)
		e, want = d.Rot(n, bit, mask), w.rot(n, bit, mask)
	case 9:
		e, want = d.Wipe(n), w.wipe(n)
	}
	if e != want {
		t.Fatalf("at %d, %d of %d: told %d, not %d", at, sort, n, e, want)
	}
	if s := d.Stat(); s != w.says() {
		t.Fatalf("at %d, %d of %d: %+v, not %+v", at, sort, n, s, w.says())
	}
}

// P3.6

func TestADiskIsWhatTheChapterSays(t *testing.T) {
	roll := &dice{1}
	for range 150 {
		blocks := 1 + roll.below(5)
		d, w := made(t, blocks), newTelling(blocks)
		for at := range 300 {
			step(t, at, roll, d, w)
			for n := -1; n <= blocks; n++ {
				b, e := d.Read(n)
				if seen, want := w.read(n); e != want || !bytes.Equal(b, seen) {
					t.Fatalf("at %d, of %d is seen %v, %d, not %v, %d", at, n, b, e, seen, want)
				}
				var stored []byte
				if w.has(n) {
					stored = w.stored[n]
				}
				stores(t, "by the words", d, n, stored)
			}
		}
		if t.Failed() {
			return
		}
	}
}

func TestAlikeEachTime(t *testing.T) {
	play := func() ([]byte, dev.Stat) {
		roll := &dice{7}
		d, w := made(t, 4), newTelling(4)
		for at := range 500 {
			step(t, at, roll, d, w)
		}
		var all []byte
		for n := range 4 {
			all = append(all, d.Stored(n)...)
		}
		return all, d.Stat()
	}
	a, first := play()
	b, second := play()
	if !bytes.Equal(a, b) || first != second {
		t.Errorf("%+v, then %+v", first, second)
	}
}

func TestDisksShareNothing(t *testing.T) {
	one, other := made(t, 2), made(t, 2)
	one.Write(0, full(1))
	one.Sync()
	one.Write(1, full(2))
	one.Rot(0, 0, 1)
	one.Arm(1)
	stat(t, "the other one", other, dev.Stat{Blocks: 2})
	for n := range 2 {
		sees(t, "the other one", other, n, full(0))
	}
	tells(t, "the other one", other.Sync(), api.OK)
}
