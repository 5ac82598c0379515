package meta_test

import (
	"bytes"
	"testing"

	"limpet/api"
	"limpet/dev"
	"limpet/meta"
)

var (
	was = api.Meta{Version: 6, Term: 5, Vote: 3}
	is  = api.Meta{Version: 7, Term: 6, Vote: 1}
)

// fate is what becomes of the writes that wait.
type fate struct{ stay, torn, sectors int }

// fates are all there are of two writes at most, and no more than one torn.
func fates() []fate {
	var l []fate
	for stay := range 4 {
		l = append(l, fate{stay, -1, 0})
		for torn := range 2 {
			for sectors := range 9 {
				l = append(l, fate{stay, torn, sectors})
			}
		}
	}
	return l
}

// keeps says whether of the one write that waits something is stored; a meta lies in the first sector.
func (f fate) keeps() bool {
	if f.torn == 0 {
		return f.sectors > 0
	}
	return f.stay&1 == 1
}

// crashed is a disk that has a meta, on which another one is put till the n-th turn of that, and which is woken.
func crashed(t *testing.T, hurt func(d *dev.Disk), n int, f fate) (*dev.Disk, api.Errno) {
	t.Helper()
	d := slots(t, metaBlock(was), metaBlock(was))
	hurt(d)
	d.Arm(n)
	e := meta.Put(d, is)
	d.Crash()
	tells(t, "Wake", d.Wake(f.stay, f.torn, f.sectors), api.OK)
	return d, e
}

// hurts are the ways to hurt a slot: in each of its sectors, and as a whole.
func hurts(d func(t *testing.T) *dev.Disk, t *testing.T, n int, see func(d *dev.Disk)) {
	t.Helper()
	for sector := range 8 {
		hurt := d(t)
		tells(t, "Rot", hurt.Rot(n, 256*sector+sector*9, 0x80000001), api.OK)
		see(hurt)
	}
	hurt := d(t)
	tells(t, "Wipe", hurt.Wipe(n), api.OK)
	see(hurt)
}

func unhurt(*dev.Disk) {}

// P5.4

func TestAPutThatToldOKIsInEachSlot(t *testing.T) {
	d := disk(t, 2)
	for _, m := range []api.Meta{{}, was, is, {Version: 7, Term: 6, Vote: 2}, {Version: most, Term: most, Vote: 7}} {
		tells(t, "Put", meta.Put(d, m), api.OK)
		d.Crash()
		d.Wake(0, -1, 0)
		holds(t, "crashed behind it", d, metaBlock(m), metaBlock(m))
		opens(t, "crashed behind it", d, m, api.OK, false)
	}
}

func TestAPutThatIsCrashed(t *testing.T) {
	for n := 1; n <= 5; n++ {
		for _, f := range fates() {
			d, e := crashed(t, unhurt, n, f)
			if (e == api.OK) != (n == 5) {
				t.Errorf("at the turn %d: told %d", n, e)
			}
			want := was
			if n > 2 || n == 2 && f.keeps() {
				want = is
			}
			lays := n == 2 && f.keeps() || n == 3 || n == 4 && !f.keeps()
			gets(t, "woken", d, want, api.OK)
			lacks(t, "woken", d)
			opens(t, "woken", d, want, api.OK, lays)
		}
	}
}

// Behind the Open each slot has it: it outlives the one, or the other.
func TestASlotIsHurtBehindACrash(t *testing.T) {
	for n := 1; n <= 5; n++ {
		for _, f := range fates() {
			for slot := range 2 {
				var want api.Meta
				opened := func(t *testing.T) *dev.Disk {
					d, _ := crashed(t, unhurt, n, f)
					want, _ = meta.Open(d)
					return d
				}
				hurts(opened, t, slot, func(d *dev.Disk) {
					gets(t, "hurt", d, want, api.OK)
					lacks(t, "hurt", d, slot)
					opens(t, "hurt", d, want, api.OK, true)
				})
			}
		}
	}
}

// A Put over a slot that is hurt already, crashed: the meta that is told is the one or the other, and never lost.
func TestAPutOverAHurtSlotIsCrashed(t *testing.T) {
	for slot := range 2 {
		for sector := range 8 {
			hurt := func(d *dev.Disk) { d.Rot(slot, 256*sector+60, 0x10101) }
			for n := 1; n <= 5; n++ {
				for _, f := range fates() {
					d, e := crashed(t, hurt, n, f)
					m, o := meta.Open(d)
					if o != api.OK || m != was && m != is || n > 2 && m != is || n == 1 && m != was || e == api.OK && m != is {
						t.Errorf("slot %d, sector %d, turn %d, %v: %v, %d", slot, sector, n, f, m, o)
					}
					holds(t, "opened", d, metaBlock(m), metaBlock(m))
				}
			}
		}
	}
}

// Open lays, and is crashed, too: the next one tells the same.
func TestAnOpenThatIsCrashed(t *testing.T) {
	for n := 1; n <= 4; n++ {
		for _, f := range fates() {
			for slot := range 2 {
				l := [2][]byte{metaBlock(was), metaBlock(was)}
				l[slot] = metaBlock(is)
				d := slots(t, l[0], l[1])
				d.Arm(n)
				if m, e := meta.Open(d); e != api.ErrDown || m != (api.Meta{}) {
					t.Errorf("at the turn %d: %v, %d", n, m, e)
				}
				d.Wake(f.stay, f.torn, f.sectors)
				if m, e := meta.Open(d); e != api.OK || m != is {
					t.Errorf("slot %d, turn %d, %v: %v, %d", slot, n, f, m, e)
				}
				holds(t, "opened", d, metaBlock(is), metaBlock(is))
			}
		}
	}
}

// An Open that heals a slot, crashed: what is whole stays.
func TestAnOpenThatHealsIsCrashed(t *testing.T) {
	whole := func(t *testing.T) *dev.Disk { return slots(t, metaBlock(is), metaBlock(is)) }
	for n := 1; n <= 4; n++ {
		for _, f := range fates() {
			for slot := range 2 {
				hurts(whole, t, slot, func(d *dev.Disk) {
					d.Arm(n)
					meta.Open(d)
					d.Wake(f.stay, f.torn, f.sectors)
					gets(t, "woken", d, is, api.OK)
					if m, e := meta.Open(d); e != api.OK || m != is {
						t.Errorf("slot %d, turn %d, %v: %v, %d", slot, n, f, m, e)
					}
					holds(t, "opened", d, metaBlock(is), metaBlock(is))
				})
			}
		}
	}
}

func TestLostJustIfBothAreHurt(t *testing.T) {
	for _, front := range []bool{false, true} {
		for _, back := range []bool{false, true} {
			d := slots(t, metaBlock(is), metaBlock(is))
			if front {
				d.Rot(0, 77, 5)
			}
			if back {
				d.Wipe(1)
			}
			want, e := is, api.OK
			if front && back {
				want, e = api.Meta{}, api.ErrLost
			}
			gets(t, "hurt", d, want, e)
			opens(t, "hurt", d, want, e, front != back)
		}
	}
}

// What is put is there, whatever happened ahead of it.
func TestLostAndPut(t *testing.T) {
	d := slots(t, metaBlock(was), metaBlock(was))
	d.Wipe(0)
	d.Rot(1, 3, 1)
	gets(t, "both hurt", d, api.Meta{}, api.ErrLost)
	tells(t, "Put", meta.Put(d, is), api.OK)
	opens(t, "put", d, is, api.OK, false)
	if s := d.Stat(); s.Hurt != 0 {
		t.Errorf("%+v", s)
	}
}

// Disks on which another layer's writes wait, too: a Put stores them, a crash may lose them, the meta does not hang on them.
func TestOtherWritesWait(t *testing.T) {
	other := bytes.Repeat([]byte{8}, 256)
	for n := 1; n <= 4; n++ {
		for stay := range 8 {
			d := disk(t, 4)
			meta.Put(d, was)
			d.Write(3, other)
			d.Arm(n)
			meta.Put(d, is)
			d.Wake(stay, -1, 0)
			want := was
			if n > 2 || n == 2 && stay&2 != 0 {
				want = is
			}
			if m, e := meta.Open(d); e != api.OK || m != want {
				t.Errorf("at the turn %d, %d stay: %v, %d", n, stay, m, e)
			}
			if kept := n > 2 || stay&1 != 0; bytes.Equal(d.Stored(3), other) != kept {
				t.Errorf("at the turn %d, %d stay: the other block is %v", n, stay, d.Stored(3))
			}
		}
	}
}
