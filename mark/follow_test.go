package mark_test

import (
	"bytes"
	"testing"

	"limpet/api"
	"limpet/dev"
	"limpet/mark"
)

var (
	was = api.Mark{Version: 6, Last: api.Ident{Index: 5, Term: 3, Kind: 2}, Void: 4}
	is  = api.Mark{Version: 7, Last: api.Ident{Index: 300, Term: 4, Kind: 1}, Void: 6}
)

// fate is what becomes of the writes that wait.
type fate struct{ stay, torn, sectors int }

// fates are all there are of two writes at most, and no more than one torn.
func fates() []fate {
	var l []fate
	for stay := range 4 {
		l = append(l, fate{stay, -1, 0})
		for torn := range 2 {
			for sectors := range 9 {
				l = append(l, fate{stay, torn, sectors})
			}
		}
	}
	return l
}

// keeps says whether of the one write that waits something is stored; a mark lies in the first sector.
func (f fate) keeps() bool {
	if f.torn == 0 {
		return f.sectors > 0
	}
	return f.stay&1 == 1
}

// crashed is a disk that has a mark, on which another one is put till the n-th turn of that, and which is woken.
func (s sort) crashed(t *testing.T, hurt func(d *dev.Disk), n int, f fate) (*dev.Disk, api.Errno) {
	t.Helper()
	d := s.twice(t, was)
	hurt(d)
	d.Arm(n)
	e := mark.Put(d, s.kind, is)
	d.Crash()
	tells(t, "Wake", d.Wake(f.stay, f.torn, f.sectors), api.OK)
	return d, e
}

func unhurt(*dev.Disk) {}

// hurts are ways to hurt a block: bursts in its first sectors and its last one, and a wipe.
func hurts(n int) []func(d *dev.Disk) api.Errno {
	l := []func(d *dev.Disk) api.Errno{func(d *dev.Disk) api.Errno { return d.Wipe(n) }}
	for _, bit := range []int{0, 70, 240, 256, 270, 2047} {
		l = append(l, func(d *dev.Disk) api.Errno { return d.Rot(n, bit, 0x80000001) })
	}
	return l
}

// P6.4

func TestAPutThatToldOKIsInEachCopy(t *testing.T) {
	each(t, func(t *testing.T, s sort) {
		d := s.twice(t, still)
		for _, m := range []api.Mark{{}, was, is, {Version: 7}, {Version: most, Last: api.Ident{Index: most, Term: most, Kind: 3}, Void: most}} {
			tells(t, "Put", mark.Put(d, s.kind, m), api.OK)
			d.Crash()
			d.Wake(0, -1, 0)
			holds(t, "crashed behind it", d, s, m)
			s.opens(t, "crashed behind it", d, m, api.OK, false)
			s.bare(t, "crashed behind it", d)
		}
	})
}

func TestAPutThatIsCrashed(t *testing.T) {
	each(t, func(t *testing.T, s sort) {
		for n := 1; n <= 5; n++ {
			for _, f := range fates() {
				d, e := s.crashed(t, unhurt, n, f)
				if (e == api.OK) != (n == 5) {
					t.Errorf("at the turn %d: told %d", n, e)
				}
				want := was
				if n > 2 || n == 2 && f.keeps() {
					want = is
				}
				lays := n == 2 && f.keeps() || n == 3 || n == 4 && !f.keeps()
				s.gets(t, "woken", d, want, api.OK)
				lacks(t, "woken", d)
				s.opens(t, "woken", d, want, api.OK, lays)
				s.bare(t, "woken", d)
			}
		}
	})
}

// Behind the Open each copy has it: it outlives the one, or the other; and so behind each next Open.
func TestACopyIsHurtBehindACrash(t *testing.T) {
	each(t, func(t *testing.T, s sort) {
		for n := 1; n <= 5; n++ {
			for _, f := range fates() {
				d, _ := s.crashed(t, unhurt, n, f)
				want, _ := mark.Open(d, s.kind)
				for _, copied := range s.copies {
					for _, hurt := range hurts(copied) {
						tells(t, "hurt", hurt(d), api.OK)
						s.gets(t, "hurt", d, want, api.OK)
						lacks(t, "hurt", d, copied)
						s.opens(t, "hurt", d, want, api.OK, true)
					}
				}
			}
		}
	})
}

// A Put over a copy that is hurt already, crashed: the mark that is told is the one or the other, and never lost.
func TestAPutOverAHurtCopyIsCrashed(t *testing.T) {
	each(t, func(t *testing.T, s sort) {
		for _, copied := range s.copies {
			for _, hurt := range hurts(copied) {
				for n := 1; n <= 5; n++ {
					for _, f := range fates() {
						d, e := s.crashed(t, func(d *dev.Disk) { hurt(d) }, n, f)
						m, o := mark.Open(d, s.kind)
						if o != api.OK || m != was && m != is || n > 2 && m != is || n == 1 && m != was || e == api.OK && m != is {
							t.Errorf("block %d, turn %d, %v: %v, %d", copied, n, f, m, o)
						}
						holds(t, "opened", d, s, m)
						s.bare(t, "opened", d)
					}
				}
			}
		}
	})
}

// Open lays, and is crashed, too: the next one tells the same.
func TestAnOpenThatIsCrashed(t *testing.T) {
	each(t, func(t *testing.T, s sort) {
		for n := 1; n <= 4; n++ {
			for _, f := range fates() {
				for i := range 2 {
					l := [2][]byte{s.blockAs(was), s.blockAs(was)}
					l[i] = s.blockAs(is)
					d := s.stored(t, l[0], l[1])
					d.Arm(n)
					if m, e := mark.Open(d, s.kind); e != api.ErrDown || m != (api.Mark{}) {
						t.Errorf("at the turn %d: %v, %d", n, m, e)
					}
					d.Wake(f.stay, f.torn, f.sectors)
					if m, e := mark.Open(d, s.kind); e != api.OK || m != is {
						t.Errorf("copy %d, turn %d, %v: %v, %d", i, n, f, m, e)
					}
					holds(t, "opened", d, s, is)
				}
			}
		}
	})
}

// An Open that heals a copy, crashed: what is whole stays.
func TestAnOpenThatHealsIsCrashed(t *testing.T) {
	each(t, func(t *testing.T, s sort) {
		for n := 1; n <= 4; n++ {
			for _, f := range fates() {
				for _, copied := range s.copies {
					for _, hurt := range hurts(copied) {
						d := s.twice(t, is)
						hurt(d)
						d.Arm(n)
						mark.Open(d, s.kind)
						d.Wake(f.stay, f.torn, f.sectors)
						s.gets(t, "woken", d, is, api.OK)
						if m, e := mark.Open(d, s.kind); e != api.OK || m != is {
							t.Errorf("block %d, turn %d, %v: %v, %d", copied, n, f, m, e)
						}
						holds(t, "opened", d, s, is)
					}
				}
			}
		}
	})
}

// What is put is there, whatever happened ahead of it, to this sort or to the other one.
func TestLostAndPut(t *testing.T) {
	each(t, func(t *testing.T, s sort) {
		d := s.twice(t, was)
		for n := 2; n < 6; n++ {
			d.Wipe(n)
		}
		s.gets(t, "all wiped", d, api.Mark{}, api.ErrLost)
		tells(t, "Put", mark.Put(d, s.kind, is), api.OK)
		s.opens(t, "put", d, is, api.OK, false)
		lacks(t, "put", d, s.other().copies[0], s.other().copies[1])
		s.other().gets(t, "put", d, api.Mark{}, api.ErrLost)
	})
}

// The sorts know nothing of each other: neither their Versions nor their Puts, whatever both are told.
func TestTheSortsAreApart(t *testing.T) {
	d := disk(t, 6)
	tells(t, "Format", mark.Format(d), api.OK)
	told := map[sort]api.Mark{bound: {}, named: {}}
	for i, version := range []int{5, 2, 9, 0, 9, most, 1, 7} {
		s := []sort{bound, named}[i%2]
		m := api.Mark{Version: version, Last: api.Ident{Index: i + 1, Term: i, Kind: 2}, Void: 8 - i}
		tells(t, "Put", mark.Put(d, s.kind, m), api.OK)
		told[s] = m
		for which, want := range told {
			which.gets(t, "put", d, want, api.OK)
			which.opens(t, "put", d, want, api.OK, false)
		}
	}
}

// Disks on which another layer's writes wait, too: a Put stores them, a crash may lose them, the mark does not hang on them.
func TestOtherWritesWait(t *testing.T) {
	other := bytes.Repeat([]byte{8}, 256)
	each(t, func(t *testing.T, s sort) {
		for n := 1; n <= 4; n++ {
			for stay := range 4 {
				d := s.twice(t, was)
				d.Write(0, other)
				d.Arm(n)
				mark.Put(d, s.kind, is)
				d.Wake(stay, -1, 0)
				want := was
				if n > 2 || n == 2 && stay&2 != 0 {
					want = is
				}
				if m, e := mark.Open(d, s.kind); e != api.OK || m != want {
					t.Errorf("at the turn %d, %d stay: %v, %d", n, stay, m, e)
				}
				if kept := n > 2 || stay&1 != 0; bytes.Equal(d.Stored(0), other) != kept {
					t.Errorf("at the turn %d, %d stay: the other block is %v", n, stay, d.Stored(0))
				}
			}
		}
	})
}
