package mark_test

import (
	"bytes"
	"slices"
	"testing"

	"limpet/api"
	"limpet/dev"
	"limpet/mark"
)

// dice are numbers that look like chance, and are the same each time.
type dice struct{ seed uint64 }

// below is a number from 0 to below n.
func (d *dice) below(n int) int {
	d.seed += 0x9E3779B97F4A7C15
	x := d.seed
	x = (x ^ x>>30) * 0xBF58476D1CE4E5B9
	x = (x ^ x>>27) * 0x94D049BB133111EB
	return int((x ^ x>>31) % uint64(n))
}

// words is the chapter told a second time, on a disk of its own: a block is a mark's if it is the one that is built of the mark.
type words struct{ d *dev.Disk }

// rightByWords says whether a mark is right.
func rightByWords(m api.Mark) bool {
	from := func(n, least int) bool { return n >= least && n <= most }
	i := m.Last
	nothing := i.Index == 0 && i.Term == 0 && i.Kind == 0
	entry := from(i.Index, 1) && from(i.Term, 0) && (i.Kind == 1 || i.Kind == 2 || i.Kind == 3)
	return from(m.Version, 0) && from(m.Void, 0) && (nothing || entry)
}

// of is the mark whose block b is, if there is one.
func (w words) of(s sort, b []byte) (api.Mark, bool) {
	num := func(b []byte) int {
		n := 0
		for i, c := range b {
			n += int(c) << (8 * i)
		}
		return n
	}
	last := api.Ident{Index: num(b[8:14]), Term: num(b[14:20]), Kind: api.EntryKind(b[20])}
	m := api.Mark{Version: num(b[1:7]), Last: last, Void: num(b[21:27])}
	if !rightByWords(m) || !bytes.Equal(b, s.blockAs(m)) {
		return api.Mark{}, false
	}
	return m, true
}

func (w words) get(s sort) (api.Mark, api.Errno) {
	var marks [2]api.Mark
	var has [2]bool
	for i, n := range s.copies {
		b, e := w.d.Read(n)
		if e != api.OK {
			return api.Mark{}, e
		}
		marks[i], has[i] = w.of(s, b)
	}
	switch {
	case has[0] && (!has[1] || marks[0].Version >= marks[1].Version):
		return marks[0], api.OK
	case has[1]:
		return marks[1], api.OK
	}
	return api.Mark{}, api.ErrLost
}

func (w words) lay(s sort, m api.Mark) api.Errno {
	for _, n := range s.copies {
		if e := w.d.Write(n, s.blockAs(m)); e != api.OK {
			return e
		}
		if e := w.d.Sync(); e != api.OK {
			return e
		}
	}
	return api.OK
}

func (w words) format() api.Errno {
	if e := w.lay(bound, api.Mark{}); e != api.OK {
		return e
	}
	return w.lay(named, api.Mark{})
}

func (w words) open(s sort) (api.Mark, api.Errno) {
	m, e := w.get(s)
	if e != api.OK {
		return api.Mark{}, e
	}
	first, _ := w.d.Read(s.copies[0])
	second, _ := w.d.Read(s.copies[1])
	if bytes.Equal(first, second) {
		return m, api.OK
	}
	if e := w.lay(s, m); e != api.OK {
		return api.Mark{}, e
	}
	return m, api.OK
}

func (w words) put(s sort, m api.Mark) api.Errno {
	if !rightByWords(m) {
		return api.ErrArg
	}
	return w.lay(s, m)
}

func (w words) damaged() []int {
	var l []int
	for _, s := range []sort{bound, named} {
		for _, n := range s.copies {
			b, e := w.d.Read(n)
			if e != api.OK {
				return nil
			}
			if _, has := w.of(s, b); !has {
				l = append(l, n)
			}
		}
	}
	return l
}

// oneOf is one of a list.
func oneOf[T any](roll *dice, l []T) T { return l[roll.below(len(l))] }

// some is a mark, at times one that is not right.
func some(roll *dice) api.Mark {
	m := api.Mark{Version: roll.below(4), Last: oneOf(roll, rightIdents()), Void: oneOf(roll, rightNums)}
	switch roll.below(30) {
	case 0:
		m.Version = oneOf(roll, wrongNums)
	case 1:
		m.Last = oneOf(roll, wrongIdents())
	case 2:
		m.Void = oneOf(roll, wrongNums)
	}
	return m
}

// befalls does the same to both disks.
func befalls(roll *dice, one, other *dev.Disk) {
	var do func(d *dev.Disk)
	n := 2 + roll.below(4)
	switch roll.below(8) {
	case 0:
		by := roll.below(9)
		do = func(d *dev.Disk) { d.Arm(by) }
	case 1:
		do = func(d *dev.Disk) { d.Crash() }
	case 2, 3:
		stay, torn, sectors := roll.below(8), roll.below(4)-1, roll.below(9)
		do = func(d *dev.Disk) { d.Wake(stay, torn, sectors) }
	case 4:
		bit, mask := roll.below(2048), uint32(roll.below(1<<32))
		do = func(d *dev.Disk) { d.Rot(n, bit, mask) }
	case 5:
		do = func(d *dev.Disk) { d.Wipe(n) }
	case 6: // of a Kind that may be the other sort's, of numbers that may not be
		m := some(roll)
		num := func(n int) int { return n & (1<<48 - 1) }
		b := blockOf(1+roll.below(4), num(m.Version), bodyOf(num(m.Last.Index), num(m.Last.Term), num(int(m.Last.Kind)), num(m.Void)))
		do = func(d *dev.Disk) { d.Write(n, b) }
	case 7:
		do = func(d *dev.Disk) { d.Sync() }
	}
	do(one)
	do(other)
}

// asks calls the package on one disk, and the words on the other one, and sees that they tell the same.
func asks(t *testing.T, roll *dice, d *dev.Disk, w words, told map[api.Errno]int) {
	t.Helper()
	s := oneOf(roll, []sort{bound, named})
	var m, want api.Mark
	var e, f api.Errno
	call := roll.below(9)
	switch call {
	case 0, 1:
		m, e = mark.Open(d, s.kind)
		want, f = w.open(s)
	case 2, 3:
		m = some(roll)
		e, f, want = mark.Put(d, s.kind, m), w.put(s, m), m
	case 4:
		if roll.below(6) == 0 {
			e, f = mark.Format(d), w.format()
		}
	default:
		m, e = mark.Get(d, s.kind)
		want, f = w.get(s)
	}
	told[e]++
	if e != f || m != want {
		t.Fatalf("call %d of the Kind %d: %v, %d, not %v, %d", call, s.kind, m, e, want, f)
	}
	if l := mark.Damaged(d); !slices.Equal(l, w.damaged()) {
		t.Fatalf("Damaged: %v, not %v", l, w.damaged())
	}
}

func TestIsWhatTheChapterSays(t *testing.T) {
	roll := &dice{6}
	told := map[api.Errno]int{}
	for range 300 {
		blocks := 6
		if roll.below(10) == 0 {
			blocks = 1 + roll.below(8)
		}
		d, w := disk(t, blocks), words{disk(t, blocks)}
		for range 150 {
			if roll.below(2) == 0 {
				befalls(roll, d, w.d)
			}
			asks(t, roll, d, w, told)
			if d.Stat() != w.d.Stat() {
				t.Fatalf("%+v, not %+v", d.Stat(), w.d.Stat())
			}
			for n := range blocks {
				if !bytes.Equal(d.Stored(n), w.d.Stored(n)) {
					t.Fatalf("of %d is stored %v, not %v", n, d.Stored(n), w.d.Stored(n))
				}
			}
		}
	}
	for _, e := range []api.Errno{api.OK, api.ErrArg, api.ErrLost, api.ErrDown} {
		if told[e] < 100 {
			t.Errorf("%d was told %d times: the steps are not well chosen", e, told[e])
		}
	}
}
