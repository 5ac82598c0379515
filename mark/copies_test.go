package mark_test

import (
	"bytes"
	"slices"
	"testing"

	"limpet/api"
	"limpet/dev"
	"limpet/mark"
)

// still is a mark that the other sort has, whatever is done to the one.
var still = api.Mark{Version: 3, Last: api.Ident{Index: 7, Term: 2, Kind: 2}, Void: 1}

// stored is a disk on which these bytes are stored as copies of a sort; those of the other one are still.
func (s sort) stored(t *testing.T, first, second []byte) *dev.Disk {
	t.Helper()
	d := disk(t, 6)
	other := s.other()
	d.Write(s.copies[0], first)
	d.Write(s.copies[1], second)
	d.Write(other.copies[0], other.blockAs(still))
	d.Write(other.copies[1], other.blockAs(still))
	tells(t, "Sync", d.Sync(), api.OK)
	return d
}

// twice is such a disk, with one mark in both copies.
func (s sort) twice(t *testing.T, m api.Mark) *dev.Disk {
	t.Helper()
	return s.stored(t, s.blockAs(m), s.blockAs(m))
}

// bare sees that the other sort's copies are as they were.
func (s sort) bare(t *testing.T, what string, d *dev.Disk) {
	t.Helper()
	for _, n := range s.other().copies {
		stores(t, what+", of the other sort", d, n, s.other().blockAs(still))
	}
}

// gets sees what Get tells, and that it does nothing to the disk.
func (s sort) gets(t *testing.T, what string, d *dev.Disk, want api.Mark, e api.Errno) {
	t.Helper()
	ahead := d.Stat()
	if m, f := mark.Get(d, s.kind); f != e || m != want {
		t.Errorf("%s: Get told %v, %d, not %v, %d", what, m, f, want, e)
	}
	if d.Stat() != ahead {
		t.Errorf("%s: Get made %+v of %+v", what, d.Stat(), ahead)
	}
}

// opens sees what Open tells, and whether it lays.
func (s sort) opens(t *testing.T, what string, d *dev.Disk, want api.Mark, e api.Errno, lays bool) {
	t.Helper()
	ahead := d.Stat().Turns
	if m, f := mark.Open(d, s.kind); f != e || m != want {
		t.Errorf("%s: Open told %v, %d, not %v, %d", what, m, f, want, e)
	}
	if lays {
		ahead += 4
	}
	turns(t, what+": Open", d, ahead)
	if e == api.OK {
		holds(t, what+": opened", d, s, want)
	}
}

// lacks sees which blocks have no mark, and that nothing is done to the disk.
func lacks(t *testing.T, what string, d *dev.Disk, want ...int) {
	t.Helper()
	ahead := d.Stat()
	if l := mark.Damaged(d); !slices.Equal(l, want) {
		t.Errorf("%s: Damaged told %v, not %v", what, l, want)
	}
	if d.Stat() != ahead {
		t.Errorf("%s: Damaged made %+v of %+v", what, d.Stat(), ahead)
	}
}

// spoils are the ways in which a copy loses its mark: rot, and blocks of what is none.
func (s sort) spoils() map[string]func(d *dev.Disk, n int) {
	kind := int(s.kind)
	writes := func(b []byte) func(d *dev.Disk, n int) {
		return func(d *dev.Disk, n int) {
			d.Write(n, b)
			d.Sync()
		}
	}
	rots := func(bit int, mask uint32) func(d *dev.Disk, n int) {
		return func(d *dev.Disk, n int) { d.Rot(n, bit, mask) }
	}
	return map[string]func(d *dev.Disk, n int){
		"wiped":              func(d *dev.Disk, n int) { d.Wipe(n) },
		"hurt at its Kind":   rots(0, 1<<3),
		"hurt at its Index":  rots(8*9, 0xFFFFFFFF),
		"hurt at its Void":   rots(8*22, 0x80000001),
		"hurt at its sum":    rots(8*29, 1),
		"hurt at its gap":    rots(8*34, 1),
		"hurt at its end":    rots(2047, 1),
		"noughts":            writes(nil),
		"of the other sort":  writes(s.other().blockAs(api.Mark{Version: 9})),
		"of a meta":          writes(blockOf(1, 9, make([]byte, 7))),
		"of another Kind":    writes(blockOf(8, 9, make([]byte, 19))),
		"of no Kind":         writes(blockOf(9, 9, make([]byte, 19))),
		"of a short body":    writes(blockOf(kind, 9, make([]byte, 18))),
		"of a long body":     writes(blockOf(kind, 9, make([]byte, 20))),
		"of a Kind of 4":     writes(blockOf(kind, 9, bodyOf(1, 1, 4, 0))),
		"of no Index":        writes(blockOf(kind, 9, bodyOf(0, 1, 1, 0))),
		"of too great Void":  writes(blockOf(kind, 9, bodyOf(1, 1, 1, most+1))),
		"of too great a Num": writes(blockOf(kind, most+1, bodyOf(1, 1, 1, 1))),
	}
}

// someMarks are a few.
func someMarks() []api.Mark {
	return []api.Mark{{}, still, {Version: 4, Last: api.Ident{Index: 9, Term: 3, Kind: 1}}, {Version: most, Last: api.Ident{Index: most, Term: most, Kind: 3}, Void: most}}
}

// P6.3

func TestTheExample(t *testing.T) {
	d := disk(t, 6)
	want := api.Mark{Version: 1, Last: api.Ident{Index: 4, Term: 2, Kind: 2}}
	tells(t, "Format", mark.Format(d), api.OK)
	tells(t, "Put", mark.Put(d, api.UnitBound, want), api.OK)
	tells(t, "Wipe", d.Wipe(3), api.OK)
	bound.gets(t, "wiped", d, want, api.OK)
	named.gets(t, "wiped", d, api.Mark{}, api.OK)
	lacks(t, "wiped", d, 3)
	bound.opens(t, "wiped", d, want, api.OK, true)
	lacks(t, "opened", d)
}

func TestEachCopySpoilt(t *testing.T) {
	each(t, func(t *testing.T, s sort) {
		for what, spoil := range s.spoils() {
			for _, n := range s.copies {
				for _, m := range someMarks() {
					d := s.twice(t, m)
					s.opens(t, "whole", d, m, api.OK, false)
					spoil(d, n)
					s.gets(t, what, d, m, api.OK)
					lacks(t, what, d, n)
					s.opens(t, what, d, m, api.OK, true)
					s.opens(t, what+", again", d, m, api.OK, false)
					lacks(t, what+", opened", d)
					s.bare(t, what, d)
					if st := d.Stat(); st.Hurt != 0 {
						t.Errorf("%s, opened: %+v", what, st)
					}
				}
			}
		}
	})
}

// The copy that is left is the older one: it is the newer of those that there are.
func TestTheNewerCopySpoilt(t *testing.T) {
	older, newer := api.Mark{Version: 4, Void: 9}, api.Mark{Version: 5, Last: api.Ident{Index: 8, Kind: 1}}
	each(t, func(t *testing.T, s sort) {
		for what, spoil := range s.spoils() {
			for i, n := range s.copies {
				l := [2][]byte{s.blockAs(older), s.blockAs(older)}
				l[i] = s.blockAs(newer)
				d := s.stored(t, l[0], l[1])
				spoil(d, n)
				s.gets(t, what, d, older, api.OK)
				s.opens(t, what, d, older, api.OK, true)
			}
		}
	})
}

func TestBothCopiesSpoilt(t *testing.T) {
	each(t, func(t *testing.T, s sort) {
		for one, spoil := range s.spoils() {
			for other, too := range s.spoils() {
				d := s.twice(t, api.Mark{Version: 1, Void: 3})
				spoil(d, s.copies[0])
				too(d, s.copies[1])
				what := one + ", and " + other
				first, second := d.Stored(s.copies[0]), d.Stored(s.copies[1])
				s.gets(t, what, d, api.Mark{}, api.ErrLost)
				lacks(t, what, d, s.copies[0], s.copies[1])
				s.opens(t, what, d, api.Mark{}, api.ErrLost, false)
				stores(t, what, d, s.copies[0], first)
				stores(t, what, d, s.copies[1], second)
				s.other().opens(t, what+", of the other sort", d, still, api.OK, false)
			}
		}
	})
}

// Each choice of the four blocks: Damaged tells just those, rising.
func TestDamagedOfBothSorts(t *testing.T) {
	for chosen := range 16 {
		d := bound.twice(t, still)
		var want []int
		for n := 2; n < 6; n++ {
			if chosen>>(n-2)&1 == 1 {
				tells(t, "Wipe", d.Wipe(n), api.OK)
				want = append(want, n)
			}
		}
		lacks(t, "wiped", d, want...)
		for _, s := range []sort{bound, named} {
			m, e := still, api.OK
			if slices.Contains(want, s.copies[0]) && slices.Contains(want, s.copies[1]) {
				m, e = api.Mark{}, api.ErrLost
			}
			s.gets(t, "wiped", d, m, e)
		}
	}
}

func TestANewDiskHasNone(t *testing.T) {
	each(t, func(t *testing.T, s sort) {
		d := disk(t, 6)
		s.gets(t, "new", d, api.Mark{}, api.ErrLost)
		s.opens(t, "new", d, api.Mark{}, api.ErrLost, false)
		lacks(t, "new", d, 2, 3, 4, 5)
	})
}

func TestTheNewer(t *testing.T) {
	early, late := api.Ident{Index: 2, Term: 1, Kind: 1}, api.Ident{Index: 9, Term: 8, Kind: 3}
	for _, c := range []struct {
		what          string
		first, second api.Mark
		newer         int
	}{
		{"of one Version, a greater Last", api.Mark{Version: 4, Last: early}, api.Mark{Version: 4, Last: late}, 0},
		{"of one Version, a smaller Last", api.Mark{Version: 4, Last: late}, api.Mark{Version: 4, Last: early}, 0},
		{"of one Version, another Void", api.Mark{Version: 4}, api.Mark{Version: 4, Void: 7}, 0},
		{"of the Version 0", api.Mark{Last: early}, api.Mark{Last: late}, 0},
		{"a greater one in the first block", api.Mark{Version: 5, Last: early}, api.Mark{Version: 4, Last: late, Void: 7}, 0},
		{"a greater one in the second block", api.Mark{Version: 4, Last: late, Void: 7}, api.Mark{Version: 5, Last: early}, 1},
		{"the first Version, and the last one", api.Mark{}, api.Mark{Version: most}, 1},
		{"the last Version, and the first one", api.Mark{Version: most}, api.Mark{}, 0},
		{"by a higher byte", api.Mark{Version: 256}, api.Mark{Version: 255}, 0},
	} {
		each(t, func(t *testing.T, s sort) {
			d := s.stored(t, s.blockAs(c.first), s.blockAs(c.second))
			want := []api.Mark{c.first, c.second}[c.newer]
			s.gets(t, c.what, d, want, api.OK)
			lacks(t, c.what, d)
			s.opens(t, c.what, d, want, api.OK, true)
			s.opens(t, c.what+", again", d, want, api.OK, false)
			s.bare(t, c.what, d)
		})
	}
}

// What is seen counts, not what is stored.
func TestWhatWaitsIsSeen(t *testing.T) {
	older, newer := api.Mark{Version: 4, Void: 2}, api.Mark{Version: 5}
	each(t, func(t *testing.T, s sort) {
		first, second := s.copies[0], s.copies[1]
		d := s.twice(t, older)
		d.Write(second, s.blockAs(newer))
		s.gets(t, "one waits", d, newer, api.OK)
		d.Write(second, nil)
		s.gets(t, "noughts wait", d, older, api.OK)
		lacks(t, "noughts wait", d, second)
		d.Write(first, nil)
		s.gets(t, "noughts wait for both", d, api.Mark{}, api.ErrLost)
		lacks(t, "noughts wait for both", d, first, second)
		d.Write(first, s.blockAs(newer))
		d.Write(second, s.blockAs(newer))
		if m, e := mark.Open(d, s.kind); m != newer || e != api.OK || d.Stat().Waiting != 5 {
			t.Errorf("both wait: %v, %d, %+v", m, e, d.Stat())
		}
		d.Write(first, nil)
		s.opens(t, "noughts wait for the first", d, newer, api.OK, true)
	})
}

func TestGetAndOpenOfKindsThatAreNoSort(t *testing.T) {
	for what, d := range disks(t) {
		mark.Format(d)
		ahead := d.Stat()
		for _, k := range noSorts {
			if m, e := mark.Get(d, k); e != api.ErrArg || m != (api.Mark{}) {
				t.Errorf("%s, Get of the Kind %d: %v, %d", what, k, m, e)
			}
			if m, e := mark.Open(d, k); e != api.ErrArg || m != (api.Mark{}) {
				t.Errorf("%s, Open of the Kind %d: %v, %d", what, k, m, e)
			}
		}
		if d.Stat() != ahead {
			t.Errorf("%s: %+v of %+v", what, d.Stat(), ahead)
		}
	}
}

// refused sees what is told of a disk whose copies can't be read.
func (s sort) refused(t *testing.T, what string, d *dev.Disk, e api.Errno) {
	t.Helper()
	s.gets(t, what, d, api.Mark{}, e)
	s.opens(t, what, d, api.Mark{}, e, false)
	lacks(t, what, d)
}

func TestDisksThatCannotBeRead(t *testing.T) {
	each(t, func(t *testing.T, s sort) {
		s.refused(t, "no disk", nil, api.ErrNil)
		s.refused(t, "one that New did not tell", &dev.Disk{}, api.ErrNil)
		down := s.twice(t, still)
		down.Wipe(s.copies[0])
		down.Crash()
		s.refused(t, "down", down, api.ErrDown)
		for blocks := 1; blocks <= s.copies[1]; blocks++ {
			d := disk(t, blocks)
			mark.Format(d)
			s.refused(t, "of too few blocks", d, api.ErrArg)
			d.Crash()
			s.refused(t, "of too few blocks, down", d, api.ErrDown)
		}
	})
}

// The bound needs no more than its own blocks; but Damaged tells nothing of a disk that has not all four.
func TestABoundOnFewerBlocks(t *testing.T) {
	for blocks := 4; blocks <= 5; blocks++ {
		d := disk(t, blocks)
		tells(t, "Put", mark.Put(d, bound.kind, still), api.OK)
		tells(t, "Wipe", d.Wipe(2), api.OK)
		bound.gets(t, "wiped", d, still, api.OK)
		lacks(t, "wiped", d)
		bound.opens(t, "wiped", d, still, api.OK, true)
		lacks(t, "opened", d)
	}
}

func TestOpenThatCannotLay(t *testing.T) {
	older, newer := api.Mark{Version: 4, Void: 3}, api.Mark{Version: 5}
	each(t, func(t *testing.T, s sort) {
		for n := 1; n <= 4; n++ {
			d := s.stored(t, s.blockAs(older), s.blockAs(newer))
			ahead := d.Stat().Turns
			d.Arm(n)
			if m, e := mark.Open(d, s.kind); e != api.ErrDown || m != (api.Mark{}) {
				t.Errorf("armed by %d: %v, %d", n, m, e)
			}
			turns(t, "Open", d, ahead+n-1)
			d.Wake(0, -1, 0)
			s.opens(t, "woken", d, newer, api.OK, n < 3)
		}
		d := s.twice(t, older)
		d.Arm(1)
		s.opens(t, "nothing to lay", d, older, api.OK, false)
	})
}

func TestDamagedHandsOutNewMemory(t *testing.T) {
	d := disk(t, 6)
	one, other := mark.Damaged(d), mark.Damaged(d)
	clear(one)
	_ = append(one[:0], 7, 8, 9)
	if !slices.Equal(other, []int{2, 3, 4, 5}) {
		t.Error(other)
	}
	lacks(t, "what was handed out is cleared", d, 2, 3, 4, 5)
}

// A block that was handed in, and is changed behind it, changes nothing of what was told.
func TestOfKeepsNothing(t *testing.T) {
	each(t, func(t *testing.T, s sort) {
		b := s.blockAs(still)
		m, e := mark.Of(s.kind, b)
		clear(b)
		if m != still || e != api.OK {
			t.Error(m, e)
		}
		if m, e := mark.Of(s.kind, s.blockAs(still)); m != still || e != api.OK {
			t.Error("again:", m, e)
		}
	})
}

func TestOtherBlocksAreLeft(t *testing.T) {
	each(t, func(t *testing.T, s sort) {
		d := disk(t, 9)
		others := []int{0, 1, s.other().copies[0], s.other().copies[1], 6, 7, 8}
		what := bytes.Repeat([]byte{9}, 256)
		for _, n := range others {
			d.Write(n, what)
		}
		tells(t, "Put", mark.Put(d, s.kind, still), api.OK)
		tells(t, "Wipe", d.Wipe(s.copies[1]), api.OK)
		s.opens(t, "wiped", d, still, api.OK, true)
		for _, n := range others {
			stores(t, "opened", d, n, what)
		}
	})
}
