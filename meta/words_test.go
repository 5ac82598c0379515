package meta_test

import (
	"bytes"
	"slices"
	"testing"

	"limpet/api"
	"limpet/dev"
	"limpet/meta"
)

// dice are numbers that look like chance, and are the same each time.
type dice struct{ seed uint64 }

// below is a number from 0 to below n.
func (d *dice) below(n int) int {
	d.seed += 0x9E3779B97F4A7C15
	x := d.seed
	x = (x ^ x>>30) * 0xBF58476D1CE4E5B9
	x = (x ^ x>>27) * 0x94D049BB133111EB
	return int((x ^ x>>31) % uint64(n))
}

// words is the chapter told a second time, on a disk of its own: a block is a meta's if it is the one that is built of the meta.
type words struct{ d *dev.Disk }

// of is the meta whose block b is, if there is one.
func (w words) of(b []byte) (api.Meta, bool) {
	num := func(b []byte) int {
		n := 0
		for i, c := range b {
			n += int(c) << (8 * i)
		}
		return n
	}
	m := api.Meta{Version: num(b[1:7]), Term: num(b[8:14]), Vote: int(b[14])}
	right := m.Version <= most && m.Term <= most && m.Vote <= 7
	if !right || !bytes.Equal(b, metaBlock(m)) {
		return api.Meta{}, false
	}
	return m, true
}

func (w words) get() (api.Meta, api.Errno) {
	var blocks [2][]byte
	for n := range blocks {
		b, e := w.d.Read(n)
		if e != api.OK {
			return api.Meta{}, e
		}
		blocks[n] = b
	}
	front, has := w.of(blocks[0])
	back, too := w.of(blocks[1])
	switch {
	case has && (!too || front.Version >= back.Version):
		return front, api.OK
	case too:
		return back, api.OK
	}
	return api.Meta{}, api.ErrLost
}

func (w words) lay(m api.Meta) api.Errno {
	for n := range 2 {
		if e := w.d.Write(n, metaBlock(m)); e != api.OK {
			return e
		}
		if e := w.d.Sync(); e != api.OK {
			return e
		}
	}
	return api.OK
}

func (w words) open() (api.Meta, api.Errno) {
	m, e := w.get()
	if e != api.OK {
		return api.Meta{}, e
	}
	front, _ := w.d.Read(0)
	back, _ := w.d.Read(1)
	if bytes.Equal(front, back) {
		return m, api.OK
	}
	if e := w.lay(m); e != api.OK {
		return api.Meta{}, e
	}
	return m, api.OK
}

func (w words) put(m api.Meta) api.Errno {
	if m.Version < 0 || m.Version > most || m.Term < 0 || m.Term > most || m.Vote < 0 || m.Vote > 7 {
		return api.ErrArg
	}
	return w.lay(m)
}

func (w words) damaged() []int {
	var l []int
	for n := range 2 {
		b, e := w.d.Read(n)
		if e != api.OK {
			return nil
		}
		if _, has := w.of(b); !has {
			l = append(l, n)
		}
	}
	return l
}

// some is a meta, at times one that is not right.
func some(roll *dice) api.Meta {
	m := api.Meta{Version: roll.below(4), Term: rightNums[roll.below(len(rightNums))], Vote: roll.below(8)}
	switch roll.below(30) {
	case 0:
		m.Version = wrongNums[roll.below(len(wrongNums))]
	case 1:
		m.Term = wrongNums[roll.below(len(wrongNums))]
	case 2:
		m.Vote = wrongVotes[roll.below(len(wrongVotes))]
	}
	return m
}

// befalls does the same to both disks.
func befalls(roll *dice, one, other *dev.Disk) {
	var do func(d *dev.Disk)
	n := roll.below(3)
	switch roll.below(8) {
	case 0:
		by := roll.below(9)
		do = func(d *dev.Disk) { d.Arm(by) }
	case 1:
		do = func(d *dev.Disk) { d.Crash() }
	case 2, 3:
		stay, torn, sectors := roll.below(8), roll.below(4)-1, roll.below(9)
		do = func(d *dev.Disk) { d.Wake(stay, torn, sectors) }
	case 4:
		bit, mask := roll.below(2048), uint32(roll.below(1<<32))
		do = func(d *dev.Disk) { d.Rot(n, bit, mask) }
	case 5:
		do = func(d *dev.Disk) { d.Wipe(n) }
	case 6:
		m := some(roll)
		b := blockOf(1+roll.below(3)/2, m.Version&0xFFFFFFFFFF, append(field(6, m.Term&(1<<48-1)), byte(m.Vote)))
		do = func(d *dev.Disk) { d.Write(n, b) }
	case 7:
		do = func(d *dev.Disk) { d.Sync() }
	}
	do(one)
	do(other)
}

// asks calls the package on one disk, and the words on the other one, and sees that they tell the same.
func asks(t *testing.T, roll *dice, d *dev.Disk, w words, told map[api.Errno]int) {
	t.Helper()
	var m, want api.Meta
	var e, f api.Errno
	call := roll.below(8)
	switch call {
	case 0, 1:
		m, e = meta.Open(d)
		want, f = w.open()
	case 2:
		m = some(roll)
		e, f, want = meta.Put(d, m), w.put(m), m
	case 3:
		if roll.below(10) == 0 {
			e, f = meta.Format(d), w.lay(api.Meta{})
		}
	default:
		m, e = meta.Get(d)
		want, f = w.get()
	}
	told[e]++
	if e != f || m != want {
		t.Fatalf("call %d: %v, %d, not %v, %d", call, m, e, want, f)
	}
	if l := meta.Damaged(d); !slices.Equal(l, w.damaged()) {
		t.Fatalf("Damaged: %v, not %v", l, w.damaged())
	}
}

func TestIsWhatTheChapterSays(t *testing.T) {
	roll := &dice{5}
	told := map[api.Errno]int{}
	for range 300 {
		blocks := 3 - roll.below(10)/9*2
		d, w := disk(t, blocks), words{disk(t, blocks)}
		for range 150 {
			if roll.below(2) == 0 {
				befalls(roll, d, w.d)
			}
			asks(t, roll, d, w, told)
			if d.Stat() != w.d.Stat() {
				t.Fatalf("%+v, not %+v", d.Stat(), w.d.Stat())
			}
			for n := range blocks {
				if !bytes.Equal(d.Stored(n), w.d.Stored(n)) {
					t.Fatalf("of %d is stored %v, not %v", n, d.Stored(n), w.d.Stored(n))
				}
			}
		}
	}
	for _, e := range []api.Errno{api.OK, api.ErrArg, api.ErrLost, api.ErrDown} {
		if told[e] < 100 {
			t.Errorf("%d was told %d times: the steps are not well chosen", e, told[e])
		}
	}
}
