package meta_test

import (
	"bytes"
	"slices"
	"testing"

	"limpet/api"
	"limpet/dev"
	"limpet/meta"
)

// slots is a disk of two blocks on which these bytes are stored.
func slots(t *testing.T, front, back []byte) *dev.Disk {
	t.Helper()
	d := disk(t, 2)
	d.Write(0, front)
	d.Write(1, back)
	tells(t, "Sync", d.Sync(), api.OK)
	return d
}

// gets sees what Get tells, and that it does nothing to the disk.
func gets(t *testing.T, what string, d *dev.Disk, want api.Meta, e api.Errno) {
	t.Helper()
	ahead := d.Stat()
	if m, f := meta.Get(d); f != e || m != want {
		t.Errorf("%s: Get told %v, %d, not %v, %d", what, m, f, want, e)
	}
	if d.Stat() != ahead {
		t.Errorf("%s: Get made %+v of %+v", what, d.Stat(), ahead)
	}
}

// opens sees what Open tells, and whether it lays.
func opens(t *testing.T, what string, d *dev.Disk, want api.Meta, e api.Errno, lays bool) {
	t.Helper()
	ahead := d.Stat().Turns
	if m, f := meta.Open(d); f != e || m != want {
		t.Errorf("%s: Open told %v, %d, not %v, %d", what, m, f, want, e)
	}
	if lays {
		ahead += 4
	}
	turns(t, what+": Open", d, ahead)
	if e == api.OK {
		holds(t, what+": opened", d, metaBlock(want), metaBlock(want))
	}
}

// lacks sees which slots have no meta, and that nothing is done to the disk.
func lacks(t *testing.T, what string, d *dev.Disk, want ...int) {
	t.Helper()
	ahead := d.Stat()
	if l := meta.Damaged(d); !slices.Equal(l, want) {
		t.Errorf("%s: Damaged told %v, not %v", what, l, want)
	}
	if d.Stat() != ahead {
		t.Errorf("%s: Damaged made %+v of %+v", what, d.Stat(), ahead)
	}
}

// spoils are the ways in which a slot loses its meta: rot, and blocks of what is none.
func spoils() map[string]func(d *dev.Disk, n int) {
	writes := func(b []byte) func(d *dev.Disk, n int) {
		return func(d *dev.Disk, n int) {
			d.Write(n, b)
			d.Sync()
		}
	}
	rots := func(bit int, mask uint32) func(d *dev.Disk, n int) {
		return func(d *dev.Disk, n int) { d.Rot(n, bit, mask) }
	}
	return map[string]func(d *dev.Disk, n int){
		"wiped":             func(d *dev.Disk, n int) { d.Wipe(n) },
		"hurt at its Kind":  rots(0, 1<<3),
		"hurt at its Term":  rots(8*9, 0xFFFFFFFF),
		"hurt at its sum":   rots(8*29, 1),
		"hurt at its gap":   rots(8*34, 1),
		"hurt at its end":   rots(2047, 1),
		"noughts":           writes(nil),
		"of another Kind":   writes(blockOf(2, 9, make([]byte, 7))),
		"of no Kind":        writes(blockOf(9, 9, make([]byte, 7))),
		"of a short body":   writes(blockOf(1, 9, make([]byte, 6))),
		"of a long body":    writes(blockOf(1, 9, make([]byte, 8))),
		"of a Vote of 8":    writes(blockOf(1, 9, []byte{0, 0, 0, 0, 0, 0, 8})),
		"of too great Term": writes(blockOf(1, 9, []byte{1, 0, 0, 0, 0, 1, 0})),
	}
}

// P5.3

func TestTheExample(t *testing.T) {
	d := disk(t, 2)
	want := api.Meta{Version: 1, Term: 3, Vote: 2}
	tells(t, "Format", meta.Format(d), api.OK)
	tells(t, "Put", meta.Put(d, want), api.OK)
	tells(t, "Wipe", d.Wipe(0), api.OK)
	gets(t, "wiped", d, want, api.OK)
	lacks(t, "wiped", d, 0)
	opens(t, "wiped", d, want, api.OK, true)
	lacks(t, "opened", d)
	gets(t, "opened", d, want, api.OK)
}

func TestEachSlotSpoilt(t *testing.T) {
	for what, spoil := range spoils() {
		for n := range 2 {
			for _, m := range []api.Meta{{}, {Version: 1, Term: 3, Vote: 2}, {Version: most, Term: most, Vote: 7}} {
				d := slots(t, metaBlock(m), metaBlock(m))
				opens(t, "whole", d, m, api.OK, false)
				spoil(d, n)
				gets(t, what, d, m, api.OK)
				lacks(t, what, d, n)
				opens(t, what, d, m, api.OK, true)
				opens(t, what+", again", d, m, api.OK, false)
				lacks(t, what+", opened", d)
				if s := d.Stat(); s.Hurt != 0 {
					t.Errorf("%s, opened: %+v", what, s)
				}
			}
		}
	}
}

// The slot that is left is the older one: it is the newer of those that there are.
func TestTheNewerSlotSpoilt(t *testing.T) {
	older, newer := api.Meta{Version: 4, Term: 3, Vote: 2}, api.Meta{Version: 5, Term: 4}
	for what, spoil := range spoils() {
		for n := range 2 {
			l := [2][]byte{metaBlock(older), metaBlock(older)}
			l[n] = metaBlock(newer)
			d := slots(t, l[0], l[1])
			spoil(d, n)
			gets(t, what, d, older, api.OK)
			opens(t, what, d, older, api.OK, true)
		}
	}
}

func TestBothSlotsSpoilt(t *testing.T) {
	b := metaBlock(api.Meta{Version: 1, Term: 3, Vote: 2})
	for one, spoil := range spoils() {
		for other, too := range spoils() {
			d := slots(t, b, b)
			spoil(d, 0)
			too(d, 1)
			what := one + ", and " + other
			front, back := d.Stored(0), d.Stored(1)
			gets(t, what, d, api.Meta{}, api.ErrLost)
			lacks(t, what, d, 0, 1)
			opens(t, what, d, api.Meta{}, api.ErrLost, false)
			holds(t, what, d, front, back)
		}
	}
}

func TestANewDiskHasNone(t *testing.T) {
	d := disk(t, 2)
	gets(t, "new", d, api.Meta{}, api.ErrLost)
	opens(t, "new", d, api.Meta{}, api.ErrLost, false)
	lacks(t, "new", d, 0, 1)
}

func TestTheNewer(t *testing.T) {
	for _, c := range []struct {
		what        string
		front, back api.Meta
		newer       int
	}{
		{"of one Version, another Term", api.Meta{Version: 4, Term: 1}, api.Meta{Version: 4, Term: 9}, 0},
		{"of one Version, a smaller Term", api.Meta{Version: 4, Term: 9}, api.Meta{Version: 4, Term: 1}, 0},
		{"of one Version, another Vote", api.Meta{Version: 4, Vote: 1}, api.Meta{Version: 4, Vote: 7}, 0},
		{"of the Version 0", api.Meta{Term: 1}, api.Meta{Term: 2}, 0},
		{"a greater one in slot 0", api.Meta{Version: 5, Term: 1}, api.Meta{Version: 4, Term: 9, Vote: 7}, 0},
		{"a greater one in slot 1", api.Meta{Version: 4, Term: 9, Vote: 7}, api.Meta{Version: 5, Term: 1}, 1},
		{"none but the first and the last", api.Meta{}, api.Meta{Version: most}, 1},
		{"the last and the first", api.Meta{Version: most}, api.Meta{}, 0},
		{"by the last byte", api.Meta{Version: 256}, api.Meta{Version: 255}, 0},
	} {
		d := slots(t, metaBlock(c.front), metaBlock(c.back))
		want := []api.Meta{c.front, c.back}[c.newer]
		gets(t, c.what, d, want, api.OK)
		lacks(t, c.what, d)
		opens(t, c.what, d, want, api.OK, true)
		opens(t, c.what+", again", d, want, api.OK, false)
	}
}

// What is seen counts, not what is stored.
func TestWhatWaitsIsSeen(t *testing.T) {
	older, newer := api.Meta{Version: 4, Term: 3, Vote: 2}, api.Meta{Version: 5, Term: 4}
	d := slots(t, metaBlock(older), metaBlock(older))
	d.Write(1, metaBlock(newer))
	gets(t, "one waits", d, newer, api.OK)
	d.Write(1, nil)
	gets(t, "noughts wait", d, older, api.OK)
	lacks(t, "noughts wait", d, 1)
	d.Write(0, nil)
	gets(t, "noughts wait for both", d, api.Meta{}, api.ErrLost)
	lacks(t, "noughts wait for both", d, 0, 1)
	d.Write(0, metaBlock(newer))
	d.Write(1, metaBlock(newer))
	if m, e := meta.Open(d); m != newer || e != api.OK || d.Stat().Waiting != 5 {
		t.Errorf("both wait: %v, %d, %+v", m, e, d.Stat())
	}
	d.Write(0, nil)
	opens(t, "noughts wait for slot 0", d, newer, api.OK, true)
}

// refused sees what is told of a disk whose slots can't be read.
func refused(t *testing.T, what string, d *dev.Disk, e api.Errno) {
	t.Helper()
	gets(t, what, d, api.Meta{}, e)
	opens(t, what, d, api.Meta{}, e, false)
	lacks(t, what, d)
}

func TestDisksThatCannotBeRead(t *testing.T) {
	refused(t, "no disk", nil, api.ErrNil)
	refused(t, "one that New did not tell", &dev.Disk{}, api.ErrNil)
	one := disk(t, 1)
	refused(t, "of one block", one, api.ErrArg)
	one.Write(0, metaBlock(api.Meta{Version: 1}))
	one.Sync()
	refused(t, "of one block, with a meta", one, api.ErrArg)
	one.Crash()
	refused(t, "of one block, down", one, api.ErrDown)
	for _, b := range [][]byte{nil, metaBlock(api.Meta{Version: 1})} {
		d := slots(t, b, b)
		d.Crash()
		refused(t, "down", d, api.ErrDown)
	}
}

func TestOpenThatCannotLay(t *testing.T) {
	older, newer := api.Meta{Version: 4, Term: 3, Vote: 2}, api.Meta{Version: 5, Term: 4}
	for n := 1; n <= 4; n++ {
		d := slots(t, metaBlock(older), metaBlock(newer))
		d.Arm(n)
		if m, e := meta.Open(d); e != api.ErrDown || m != (api.Meta{}) {
			t.Errorf("armed by %d: %v, %d", n, m, e)
		}
		turns(t, "Open", d, 3+n-1)
		d.Wake(0, -1, 0)
		opens(t, "woken", d, newer, api.OK, n < 3)
	}
	d := slots(t, metaBlock(older), metaBlock(older))
	d.Arm(1)
	opens(t, "nothing to lay", d, older, api.OK, false)
}

func TestDamagedHandsOutNewMemory(t *testing.T) {
	d := disk(t, 2)
	one, other := meta.Damaged(d), meta.Damaged(d)
	clear(one)
	_ = append(one[:0], 5, 6)
	if !slices.Equal(other, []int{0, 1}) {
		t.Error(other)
	}
	lacks(t, "what was handed out is cleared", d, 0, 1)
}

func TestOtherBlocksAreLeft(t *testing.T) {
	d := disk(t, 6)
	other := bytes.Repeat([]byte{9}, 256)
	for n := 2; n < 6; n++ {
		d.Write(n, other)
	}
	tells(t, "Format", meta.Format(d), api.OK)
	tells(t, "Put", meta.Put(d, api.Meta{Version: 1}), api.OK)
	tells(t, "Wipe", d.Wipe(1), api.OK)
	opens(t, "wiped", d, api.Meta{Version: 1}, api.OK, true)
	for n := 2; n < 6; n++ {
		if !bytes.Equal(d.Stored(n), other) {
			t.Errorf("the block %d is %v", n, d.Stored(n))
		}
	}
}
