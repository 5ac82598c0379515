package meta_test

import (
	"bytes"
	"hash/crc32"
	"math"
	"slices"
	"testing"

	"limpet/api"
	"limpet/dev"
	"limpet/meta"
	"limpet/unit"
)

const most = 1 << 40

var (
	rightNums  = []int{0, 1, 255, 256, 0x0102030405, most - 1, most}
	wrongNums  = []int{math.MinInt, -most, -256, -1, most + 1, most + 256, 1 << 48, 1<<48 + 1, math.MaxInt}
	rightVotes = []int{0, 1, 6, 7}
	wrongVotes = []int{math.MinInt, -256, -1, 8, 9, 255, 256, 257, 263, math.MaxInt}
)

// rightMetas are metas at the edges of what is right.
func rightMetas() []api.Meta {
	var l []api.Meta
	for _, version := range rightNums {
		for _, term := range rightNums {
			for _, vote := range rightVotes {
				l = append(l, api.Meta{Version: version, Term: term, Vote: vote})
			}
		}
	}
	return l
}

// wrongMetas are metas of which one part, at least, may not be.
func wrongMetas() []api.Meta {
	var l []api.Meta
	for _, n := range wrongNums {
		l = append(l, api.Meta{Version: n}, api.Meta{Version: n, Term: 1, Vote: 7}, api.Meta{Term: n}, api.Meta{Version: most, Term: n, Vote: 7})
	}
	for _, vote := range wrongVotes {
		l = append(l, api.Meta{Vote: vote}, api.Meta{Version: most, Term: most, Vote: vote})
	}
	return append(l, api.Meta{Version: -1, Term: -1, Vote: -1})
}

// field is the bytes of one, by the chapter's words.
func field(width, n int) []byte {
	var b []byte
	for range width {
		b = append(b, byte(n%256))
		n /= 256
	}
	return b
}

// blockOf is the block of a unit, by the words of chapter 4, byte by byte.
func blockOf(kind, num int, body []byte) []byte {
	b := slices.Concat([]byte{byte(kind)}, field(6, num), []byte{byte(len(body))}, body)
	b = append(b, make([]byte, 256-len(b))...)
	sum := crc32.Checksum(slices.Concat(b[36:], b[:28]), crc32.MakeTable(crc32.Castagnoli))
	copy(b[28:], field(4, int(sum)))
	return b
}

// metaBlock is the block of a meta, by the chapter's words.
func metaBlock(m api.Meta) []byte {
	return blockOf(1, m.Version, append(field(6, m.Term), byte(m.Vote)))
}

// disk is one of so many blocks.
func disk(t *testing.T, blocks int) *dev.Disk {
	t.Helper()
	d, e := dev.New(blocks)
	if e != api.OK {
		t.Fatal(e)
	}
	return d
}

// tells sees that a call told what it should.
func tells(t *testing.T, what string, e, want api.Errno) {
	t.Helper()
	if e != want {
		t.Errorf("%s: told %d, not %d", what, e, want)
	}
}

// holds sees that these blocks are stored in the slots, and that nothing waits.
func holds(t *testing.T, what string, d *dev.Disk, slots ...[]byte) {
	t.Helper()
	for n, want := range slots {
		if b := d.Stored(n); !bytes.Equal(b, want) {
			t.Errorf("%s: in slot %d is stored %v, not %v", what, n, b, want)
		}
	}
	if s := d.Stat(); s.Waiting != 0 {
		t.Errorf("%s: %d writes wait", what, s.Waiting)
	}
}

// turns sees that a disk has done so many.
func turns(t *testing.T, what string, d *dev.Disk, want int) {
	t.Helper()
	if s := d.Stat(); s.Turns != want {
		t.Errorf("%s: %d turns, not %d", what, s.Turns, want)
	}
}

// P5.1

func TestRight(t *testing.T) {
	for _, m := range rightMetas() {
		if !meta.Right(m) {
			t.Errorf("%v is not right", m)
		}
	}
	for _, m := range wrongMetas() {
		if meta.Right(m) {
			t.Errorf("%v is right", m)
		}
	}
}

func TestUnit(t *testing.T) {
	for _, m := range rightMetas() {
		u := meta.Unit(m)
		if u.Kind != api.UnitMeta || u.Num != m.Version || !bytes.Equal(u.Body, append(field(6, m.Term), byte(m.Vote))) {
			t.Errorf("of %v the unit %v", m, u)
		}
		if b, e := unit.Seal(u); e != api.OK || !bytes.Equal(b, metaBlock(m)) || !unit.Small(u) {
			t.Errorf("of %v the block %v, %d", m, b, e)
		}
	}
	for _, m := range wrongMetas() {
		if u := meta.Unit(m); u.Kind != 0 || u.Num != 0 || len(u.Body) != 0 {
			t.Errorf("of %v, that is not right, the unit %v", m, u)
		}
	}
}

func TestTheBytesOfABody(t *testing.T) {
	u := meta.Unit(api.Meta{Version: 9, Term: 0x0605040302, Vote: 7})
	if !bytes.Equal(u.Body, []byte{2, 3, 4, 5, 6, 0, 7}) || u.Num != 9 || u.Kind != 1 {
		t.Error(u)
	}
}

func TestUnitHandsOutNewMemory(t *testing.T) {
	m := api.Meta{Version: 1, Term: 2, Vote: 3}
	one, other := meta.Unit(m), meta.Unit(m)
	clear(one.Body)
	_ = append(one.Body, 1, 2, 3)
	if !bytes.Equal(other.Body, []byte{2, 0, 0, 0, 0, 0, 3}) || !bytes.Equal(meta.Unit(m).Body, other.Body) {
		t.Error(other)
	}
}

func TestOf(t *testing.T) {
	for _, m := range rightMetas() {
		b := metaBlock(m)
		if got, e := meta.Of(b); e != api.OK || got != m {
			t.Errorf("of the block of %v: %v, %d", m, got, e)
		}
		if !bytes.Equal(b, metaBlock(m)) {
			t.Errorf("the block of %v is changed", m)
		}
	}
}

// none sees that a block is no meta's, and what is told of it.
func none(t *testing.T, what string, b []byte, want api.Errno) {
	t.Helper()
	if m, e := meta.Of(b); e != want || m != (api.Meta{}) {
		t.Errorf("%s: %v, %d, not %d", what, m, e, want)
	}
}

func TestOfBlocksOfOtherUnits(t *testing.T) {
	body := []byte{1, 0, 0, 0, 0, 0, 1}
	for kind := 2; kind <= 8; kind++ {
		for _, many := range []int{0, 6, 7, 8, 20} {
			b := blockOf(kind, 5, bytes.Repeat([]byte{1}, many))
			none(t, "of another Kind", b, api.ErrKind)
		}
	}
	for _, kind := range []int{0, 9, 255} {
		none(t, "of no Kind", blockOf(kind, 5, body), api.ErrShape)
	}
	for _, num := range []int{most + 1, 1 << 41, 1<<48 - 1} {
		none(t, "of a Version above the greatest", blockOf(1, num, body), api.ErrShape)
	}
	for many := range 240 {
		b, e := unit.Seal(api.Unit{Kind: api.UnitMeta, Num: 5, Body: make([]byte, many)})
		if e != api.OK {
			t.Fatal(e)
		}
		if many != 7 {
			none(t, "of a body of another length", b, api.ErrShape)
		}
	}
}

func TestOfBodiesThatMayNotBe(t *testing.T) {
	for vote := 8; vote < 256; vote++ {
		none(t, "of a Vote that may not be", blockOf(1, 5, []byte{1, 0, 0, 0, 0, 0, byte(vote)}), api.ErrShape)
	}
	for _, term := range []int{most + 1, most + 256, 1 << 41, 1<<48 - 1} {
		for _, vote := range []byte{0, 7, 8} {
			none(t, "of a Term that may not be", blockOf(1, 5, append(field(6, term), vote)), api.ErrShape)
		}
	}
}

func TestOfBlocksThatAreNotOpened(t *testing.T) {
	b := metaBlock(api.Meta{Version: 5, Term: 6, Vote: 7})
	changed := func(at int, by byte) []byte {
		c := bytes.Clone(b)
		c[at] ^= by
		return c
	}
	none(t, "no bytes", nil, api.ErrShape)
	none(t, "noughts", make([]byte, 256), api.ErrShape)
	none(t, "a byte too few", b[:255], api.ErrShape)
	none(t, "a byte too many", append(bytes.Clone(b), 0), api.ErrShape)
	none(t, "another Kind, and no sum that fits", changed(0, 3), api.ErrSum)
	none(t, "something in the gap", changed(33, 1), api.ErrShape)
	for _, at := range []int{1, 7, 8, 13, 14, 15, 28, 31, 36, 255} {
		none(t, "a sum that does not fit", changed(at, 1), api.ErrSum)
	}
}

// P5.2

func TestFormat(t *testing.T) {
	for _, blocks := range []int{2, 3, 64} {
		d := disk(t, blocks)
		tells(t, "Format", meta.Format(d), api.OK)
		first := metaBlock(api.Meta{})
		holds(t, "formatted", d, first, first)
		for n := 2; n < blocks; n++ {
			if !bytes.Equal(d.Stored(n), make([]byte, 256)) {
				t.Errorf("the block %d is written", n)
			}
		}
		turns(t, "Format", d, 4)
		if m, e := meta.Get(d); e != api.OK || m != (api.Meta{}) {
			t.Errorf("%v, %d", m, e)
		}
	}
}

func TestFormatForgets(t *testing.T) {
	d := disk(t, 2)
	tells(t, "Put", meta.Put(d, api.Meta{Version: 8, Term: 9, Vote: 1}), api.OK)
	tells(t, "Format", meta.Format(d), api.OK)
	first := metaBlock(api.Meta{})
	holds(t, "formatted anew", d, first, first)
}

func TestPut(t *testing.T) {
	d := disk(t, 2)
	for i, m := range rightMetas() {
		tells(t, "Put", meta.Put(d, m), api.OK)
		holds(t, "put", d, metaBlock(m), metaBlock(m))
		turns(t, "Put", d, 4*i+4)
		if got, e := meta.Get(d); e != api.OK || got != m {
			t.Errorf("%v was put: %v, %d", m, got, e)
		}
	}
}

func TestPutOfMetasThatAreNotRight(t *testing.T) {
	down := disk(t, 2)
	down.Crash()
	for _, m := range wrongMetas() {
		d := disk(t, 2)
		tells(t, "of one that is up", meta.Put(d, m), api.ErrArg)
		turns(t, "of one that is not right", d, 0)
		tells(t, "of one that is down", meta.Put(down, m), api.ErrArg)
		tells(t, "of no disk", meta.Put(nil, m), api.ErrArg)
		tells(t, "of one that New did not tell", meta.Put(&dev.Disk{}, m), api.ErrArg)
	}
}

// What is laid of a disk that has not both slots: the first error ends it.
func TestLaidOnOneBlock(t *testing.T) {
	d := disk(t, 1)
	tells(t, "Format", meta.Format(d), api.ErrArg)
	holds(t, "Format", d, metaBlock(api.Meta{}))
	turns(t, "Format", d, 2)
	m := api.Meta{Version: 1, Term: 2, Vote: 3}
	tells(t, "Put", meta.Put(d, m), api.ErrArg)
	holds(t, "Put", d, metaBlock(m))
	turns(t, "Put", d, 4)
	d.Crash()
	tells(t, "Format, down", meta.Format(d), api.ErrDown)
	tells(t, "Put, down", meta.Put(d, m), api.ErrDown)
}

func TestLaidOnNoDisk(t *testing.T) {
	for _, d := range []*dev.Disk{nil, {}} {
		tells(t, "Format", meta.Format(d), api.ErrNil)
		tells(t, "Put", meta.Put(d, api.Meta{Version: 1}), api.ErrNil)
	}
}

func TestLaidOnADiskThatIsDown(t *testing.T) {
	d := disk(t, 2)
	d.Crash()
	tells(t, "Format", meta.Format(d), api.ErrDown)
	tells(t, "Put", meta.Put(d, api.Meta{Version: 1}), api.ErrDown)
	d.Wake(0, -1, 0)
	holds(t, "woken", d, make([]byte, 256), make([]byte, 256))
	turns(t, "woken", d, 0)
}

// A slot is written, and stored, ahead of the other one: what a Put has done at each of its turns.
func TestTheOrderOfLaying(t *testing.T) {
	was, is := api.Meta{Version: 1, Term: 5}, api.Meta{Version: 2, Term: 6, Vote: 1}
	for n, want := range [][2]api.Meta{1: {was, was}, 2: {was, was}, 3: {is, was}, 4: {is, was}, 5: {is, is}} {
		if n == 0 {
			continue
		}
		d := disk(t, 2)
		meta.Put(d, was)
		d.Arm(n)
		told := api.ErrDown
		if n > 4 {
			told = api.OK
		}
		tells(t, "Put", meta.Put(d, is), told)
		turns(t, "Put", d, 4+n-1)
		if s := d.Stat(); s.Waiting != map[int]int{2: 1, 4: 1}[n] || s.Down != (n < 5) {
			t.Errorf("armed by %d: %+v", n, s)
		}
		for slot, m := range want {
			if b := d.Stored(slot); !bytes.Equal(b, metaBlock(m)) {
				t.Errorf("armed by %d: in slot %d is stored %v", n, slot, b)
			}
		}
	}
}
