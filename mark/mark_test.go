package mark_test

import (
	"bytes"
	"hash/crc32"
	"math"
	"slices"
	"testing"

	"limpet/api"
	"limpet/dev"
	"limpet/mark"
	"limpet/unit"
)

const most = 1 << 40

var (
	rightNums  = []int{0, 1, 255, 256, 0x0102030405, most - 1, most}
	wrongNums  = []int{math.MinInt, -most, -256, -1, most + 1, most + 256, 1 << 48, 1<<48 + 1, math.MaxInt}
	rightKinds = []api.EntryKind{api.EntryNone, api.EntryCommand, api.EntryGroup}
	wrongKinds = []api.EntryKind{math.MinInt, -1, 4, 5, 255, 256, 257, 258, math.MaxInt} // and 0, but of Index 0
	noSorts    = []api.UnitKind{math.MinInt, -1, 0, 1, 4, 5, 6, 7, 8, 9, 256 + 2, 256 + 3, math.MaxInt}
)

// sort is one of marks: its Kind, and where its copies lie.
type sort struct {
	kind   api.UnitKind
	copies [2]int
}

var (
	bound = sort{2, [2]int{2, 3}}
	named = sort{3, [2]int{4, 5}}
)

func (s sort) other() sort {
	if s == bound {
		return named
	}
	return bound
}

// each tests both sorts.
func each(t *testing.T, do func(t *testing.T, s sort)) {
	t.Helper()
	t.Run("bound", func(t *testing.T) { do(t, bound) })
	t.Run("named", func(t *testing.T) { do(t, named) })
}

// rightIdents are idents at the edges of what is right.
func rightIdents() []api.Ident {
	l := []api.Ident{{}}
	for _, index := range rightNums[1:] {
		for _, term := range rightNums {
			for _, kind := range rightKinds {
				l = append(l, api.Ident{Index: index, Term: term, Kind: kind})
			}
		}
	}
	return l
}

// wrongIdents are idents of which a part may not be, or not with another one.
func wrongIdents() []api.Ident {
	var l []api.Ident
	for _, n := range wrongNums {
		l = append(l, api.Ident{Index: n}, api.Ident{Term: n}, api.Ident{Index: n, Term: 1, Kind: 1},
			api.Ident{Index: 1, Term: n, Kind: 1}, api.Ident{Index: most, Term: n, Kind: 3}, api.Ident{Index: n, Term: n, Kind: 2})
	}
	for _, kind := range wrongKinds {
		l = append(l, api.Ident{Kind: kind}, api.Ident{Index: 1, Kind: kind}, api.Ident{Index: most, Term: most, Kind: kind})
	}
	for _, n := range rightNums[1:] {
		l = append(l, api.Ident{Index: n}, api.Ident{Index: n, Term: 1}, api.Ident{Term: n})
	}
	for _, kind := range rightKinds {
		l = append(l, api.Ident{Kind: kind}, api.Ident{Term: 1, Kind: kind}, api.Ident{Term: most, Kind: kind})
	}
	return l
}

// rightMarks are marks at the edges of what is right.
func rightMarks() []api.Mark {
	var l []api.Mark
	for _, version := range rightNums {
		for _, void := range rightNums {
			for _, last := range []api.Ident{{}, {Index: 1, Kind: 1}, {Index: most, Term: most, Kind: 3}} {
				l = append(l, api.Mark{Version: version, Last: last, Void: void})
			}
		}
	}
	for _, last := range rightIdents() {
		l = append(l, api.Mark{Version: 9, Last: last, Void: 8})
	}
	return l
}

// wrongMarks are marks of which one part, at least, may not be.
func wrongMarks() []api.Mark {
	last := api.Ident{Index: most, Term: most, Kind: 3}
	var l []api.Mark
	for _, n := range wrongNums {
		l = append(l, api.Mark{Version: n}, api.Mark{Version: n, Last: last, Void: most}, api.Mark{Void: n}, api.Mark{Version: most, Last: last, Void: n})
	}
	for _, i := range wrongIdents() {
		l = append(l, api.Mark{Last: i}, api.Mark{Version: most, Last: i, Void: most})
	}
	return append(l, api.Mark{Version: -1, Last: api.Ident{Index: -1, Term: -1, Kind: -1}, Void: -1})
}

// field is the bytes of one, by the words of chapter 2.
func field(width, n int) []byte {
	var b []byte
	for range width {
		b = append(b, byte(n%256))
		n /= 256
	}
	return b
}

// blockOf is the block of a unit whose body has at most 20 bytes, by the words of chapter 4, byte by byte.
func blockOf(kind, num int, body []byte) []byte {
	b := slices.Concat([]byte{byte(kind)}, field(6, num), []byte{byte(len(body))}, body)
	b = append(b, make([]byte, 256-len(b))...)
	sum := crc32.Checksum(slices.Concat(b[36:], b[:28]), crc32.MakeTable(crc32.Castagnoli))
	copy(b[28:], field(4, int(sum)))
	return b
}

// bodyOf is a mark's, by the chapter's words.
func bodyOf(index, term, kind, void int) []byte {
	return slices.Concat(field(6, index), field(6, term), field(1, kind), field(6, void))
}

// blockAs is the block of a mark of a sort, by the chapter's words.
func (s sort) blockAs(m api.Mark) []byte {
	return blockOf(int(s.kind), m.Version, bodyOf(m.Last.Index, m.Last.Term, int(m.Last.Kind), m.Void))
}

// disk is one of so many blocks.
func disk(t *testing.T, blocks int) *dev.Disk {
	t.Helper()
	d, e := dev.New(blocks)
	if e != api.OK {
		t.Fatal(e)
	}
	return d
}

// tells sees that a call told what it should.
func tells(t *testing.T, what string, e, want api.Errno) {
	t.Helper()
	if e != want {
		t.Errorf("%s: told %d, not %d", what, e, want)
	}
}

// turns sees that a disk has done so many.
func turns(t *testing.T, what string, d *dev.Disk, want int) {
	t.Helper()
	if n := d.Stat().Turns; n != want {
		t.Errorf("%s: %d turns, not %d", what, n, want)
	}
}

// stores sees that this is stored in a block.
func stores(t *testing.T, what string, d *dev.Disk, n int, want []byte) {
	t.Helper()
	if b := d.Stored(n); !bytes.Equal(b, want) {
		t.Errorf("%s: in the block %d is stored %v, not %v", what, n, b, want)
	}
}

// holds sees that both copies of a sort are stored as this mark's, and that nothing waits.
func holds(t *testing.T, what string, d *dev.Disk, s sort, m api.Mark) {
	t.Helper()
	for _, n := range s.copies {
		stores(t, what, d, n, s.blockAs(m))
	}
	if n := d.Stat().Waiting; n != 0 {
		t.Errorf("%s: %d writes wait", what, n)
	}
}

// P6.1

func TestKnown(t *testing.T) {
	for _, i := range rightIdents() {
		if !mark.Known(i) {
			t.Errorf("%v is not right", i)
		}
	}
	for _, i := range wrongIdents() {
		if mark.Known(i) {
			t.Errorf("%v is right", i)
		}
	}
}

func TestRight(t *testing.T) {
	for _, m := range rightMarks() {
		if !mark.Right(m) {
			t.Errorf("%v is not right", m)
		}
	}
	for _, m := range wrongMarks() {
		if mark.Right(m) {
			t.Errorf("%v is right", m)
		}
	}
}

func TestOf(t *testing.T) {
	each(t, func(t *testing.T, s sort) {
		for _, m := range rightMarks() {
			b := s.blockAs(m)
			if got, e := mark.Of(s.kind, b); e != api.OK || got != m {
				t.Errorf("of the block of %v: %v, %d", m, got, e)
			}
			if !bytes.Equal(b, s.blockAs(m)) {
				t.Errorf("the block of %v is changed", m)
			}
		}
	})
}

func TestTheBytesOfABlock(t *testing.T) {
	m := api.Mark{Version: 9, Last: api.Ident{Index: 0x0605040302, Term: 0x0B0A090807, Kind: 3}, Void: 0x100F0E0D0C}
	each(t, func(t *testing.T, s sort) {
		d := disk(t, 6)
		tells(t, "Put", mark.Put(d, s.kind, m), api.OK)
		want := []byte{byte(s.kind), 9, 0, 0, 0, 0, 0, 19, 2, 3, 4, 5, 6, 0, 7, 8, 9, 10, 11, 0, 3, 12, 13, 14, 15, 16, 0, 0}
		for _, n := range s.copies {
			b := d.Stored(n)
			if !bytes.Equal(b[:28], want) || !bytes.Equal(b[32:], make([]byte, 224)) {
				t.Error(n, b)
			}
			if u, e := unit.Open(b); e != api.OK || !unit.Small(u) {
				t.Error(n, u, e)
			}
		}
	})
}

// none sees that a block is no mark's of a sort, and what is told of it.
func none(t *testing.T, what string, k api.UnitKind, b []byte, want api.Errno) {
	t.Helper()
	if m, e := mark.Of(k, b); e != want || m != (api.Mark{}) {
		t.Errorf("of the Kind %d, %s: %v, %d, not %d", k, what, m, e, want)
	}
}

// What is no sort is told ahead of all that is wrong with the block.
func TestOfKindsThatAreNoSort(t *testing.T) {
	for _, k := range noSorts {
		none(t, "no bytes", k, nil, api.ErrArg)
		none(t, "a bound", k, bound.blockAs(api.Mark{Version: 1}), api.ErrArg)
		none(t, "a name", k, named.blockAs(api.Mark{Version: 1}), api.ErrArg)
		if k >= 1 && k <= 8 {
			none(t, "a block of that Kind", k, blockOf(int(k), 1, make([]byte, 19)), api.ErrArg)
		}
	}
}

func TestOfBlocksOfOtherUnits(t *testing.T) {
	each(t, func(t *testing.T, s sort) {
		none(t, "the other sort", s.kind, s.other().blockAs(api.Mark{Version: 1}), api.ErrKind)
		for kind := 1; kind <= 8; kind++ {
			for _, many := range []int{0, 7, 18, 19, 20} {
				if kind != int(s.kind) {
					none(t, "another Kind", s.kind, blockOf(kind, 5, bytes.Repeat([]byte{1}, many)), api.ErrKind)
				}
			}
		}
		for _, kind := range []int{0, 9, 255} {
			none(t, "no Kind", s.kind, blockOf(kind, 5, make([]byte, 19)), api.ErrShape)
		}
		for _, num := range []int{most + 1, 1 << 41, 1<<48 - 1} {
			none(t, "a Version above the greatest", s.kind, blockOf(int(s.kind), num, make([]byte, 19)), api.ErrShape)
		}
		for many := range 240 {
			b, e := unit.Seal(api.Unit{Kind: s.kind, Num: 5, Body: make([]byte, many)})
			if e != api.OK {
				t.Fatal(e)
			}
			if many != 19 {
				none(t, "a body of another length", s.kind, b, api.ErrShape)
			}
		}
	})
}

func TestOfBodiesThatMayNotBe(t *testing.T) {
	each(t, func(t *testing.T, s sort) {
		wrong := func(what string, index, term, kind, void int) {
			t.Helper()
			none(t, what, s.kind, blockOf(int(s.kind), 5, bodyOf(index, term, kind, void)), api.ErrShape)
		}
		for _, n := range []int{most + 1, most + 256, 1 << 41, 1<<48 - 1} {
			wrong("too great an Index", n, 1, 1, 1)
			wrong("too great a Term", 1, n, 1, 1)
			wrong("too great a Void", 1, 1, 1, n)
			wrong("too great a Void, and no Last", 0, 0, 0, n)
		}
		for kind := range 256 {
			wrong("no Index, and a Term", 0, 1, kind, 1)
			if kind > 0 {
				wrong("no Index, and a Kind", 0, 0, kind, 1)
			}
			if kind == 0 || kind > 3 {
				wrong("no Kind of an entry", 1, 1, kind, 1)
				wrong("no Kind of an entry, at the ends", most, most, kind, most)
			}
		}
	})
}

func TestOfBlocksThatAreNotOpened(t *testing.T) {
	each(t, func(t *testing.T, s sort) {
		b := s.blockAs(api.Mark{Version: 5, Last: api.Ident{Index: 6, Term: 7, Kind: 2}, Void: 8})
		changed := func(at int, by byte) []byte {
			c := bytes.Clone(b)
			c[at] ^= by
			return c
		}
		none(t, "no bytes", s.kind, nil, api.ErrShape)
		none(t, "noughts", s.kind, make([]byte, 256), api.ErrShape)
		none(t, "a byte too few", s.kind, b[:255], api.ErrShape)
		none(t, "a byte too many", s.kind, append(bytes.Clone(b), 0), api.ErrShape)
		none(t, "another Kind, and no sum that fits", s.kind, changed(0, 4), api.ErrSum)
		none(t, "no Kind, and no sum that fits", s.kind, changed(0, 128), api.ErrShape)
		none(t, "something in the gap", s.kind, changed(33, 1), api.ErrShape)
		for at := 1; at < 32; at++ {
			none(t, "another byte", s.kind, changed(at, 1), api.ErrSum)
		}
		for at := 36; at < 256; at++ {
			none(t, "another byte behind the gap", s.kind, changed(at, 128), api.ErrSum)
		}
	})
}

// P6.2

func TestFormat(t *testing.T) {
	for _, blocks := range []int{6, 7, 40} {
		d := disk(t, blocks)
		tells(t, "Format", mark.Format(d), api.OK)
		turns(t, "Format", d, 8)
		holds(t, "Format", d, bound, api.Mark{})
		holds(t, "Format", d, named, api.Mark{})
		tells(t, "Put", mark.Put(d, bound.kind, api.Mark{Version: 3, Void: 2}), api.OK)
		tells(t, "Put", mark.Put(d, named.kind, api.Mark{Version: 4}), api.OK)
		tells(t, "Format, again", mark.Format(d), api.OK)
		holds(t, "Format, again", d, bound, api.Mark{})
		holds(t, "Format, again", d, named, api.Mark{})
		for n := range blocks {
			if n < 2 || n > 5 {
				stores(t, "Format, again", d, n, make([]byte, 256))
			}
		}
	}
}

// Format stops at each of its turns: what it has laid by then, of which sort.
func TestTheOrderOfFormat(t *testing.T) {
	nought := make([]byte, 256)
	for n := 1; n <= 8; n++ {
		d := disk(t, 6)
		d.Arm(n)
		tells(t, "Format", mark.Format(d), api.ErrDown)
		turns(t, "Format", d, n-1)
		for i, s := range []sort{bound, bound, named, named} {
			want := nought
			if n > 2*i+2 {
				want = s.blockAs(api.Mark{})
			}
			stores(t, "Format", d, 2+i, want)
		}
	}
}

func TestPut(t *testing.T) {
	each(t, func(t *testing.T, s sort) {
		d := disk(t, 6)
		done := 0
		for _, m := range rightMarks() { // Versions that rise, sink and stay
			tells(t, "Put", mark.Put(d, s.kind, m), api.OK)
			done += 4
			turns(t, "Put", d, done)
			holds(t, "Put", d, s, m)
		}
		for n := range 6 {
			if n != s.copies[0] && n != s.copies[1] {
				stores(t, "Put", d, n, make([]byte, 256))
			}
		}
	})
}

// disks are those on which nothing can be laid, and one on which it can.
func disks(t *testing.T) map[string]*dev.Disk {
	down := disk(t, 6)
	down.Crash()
	return map[string]*dev.Disk{"none": nil, "a disk that New did not tell": {}, "one block": disk(t, 1), "a disk that is down": down, "a disk": disk(t, 6)}
}

// What may not be put is told ahead of what is wrong with the disk, and the disk is not touched.
func TestPutOfWhatMayNotBe(t *testing.T) {
	refuses := func(what string, d *dev.Disk, k api.UnitKind, m api.Mark) {
		t.Helper()
		tells(t, what, mark.Put(d, k, m), api.ErrArg)
		if s := d.Stat(); s.Turns != 0 || s.Waiting != 0 {
			t.Errorf("%s, of the Kind %d and %v: %+v", what, k, m, s)
		}
	}
	for what, d := range disks(t) {
		for _, k := range noSorts {
			refuses(what, d, k, api.Mark{Version: 1})
			refuses(what, d, k, api.Mark{Version: -1})
		}
		for _, m := range wrongMarks() {
			refuses(what, d, bound.kind, m)
			refuses(what, d, named.kind, m)
		}
	}
}

// lays are the calls that lay, all three.
func lays() map[string]func(d *dev.Disk) api.Errno {
	return map[string]func(d *dev.Disk) api.Errno{
		"Format":         mark.Format,
		"Put of a bound": func(d *dev.Disk) api.Errno { return mark.Put(d, bound.kind, api.Mark{Version: 1}) },
		"Put of a name":  func(d *dev.Disk) api.Errno { return mark.Put(d, named.kind, api.Mark{Version: 1}) },
	}
}

func TestLayingOnNoDiskAndOneThatIsDown(t *testing.T) {
	for what, lay := range lays() {
		tells(t, what, lay(nil), api.ErrNil)
		tells(t, what, lay(&dev.Disk{}), api.ErrNil)
		for _, blocks := range []int{1, 5, 6} {
			d := disk(t, blocks)
			d.Crash()
			tells(t, what, lay(d), api.ErrDown)
			d.Wake(0, -1, 0)
			turns(t, what, d, 0)
		}
	}
}

// The first error ends it: what lies ahead of the block that there is not is laid, and stored.
func TestLayingOnFewerBlocks(t *testing.T) {
	for blocks := 1; blocks <= 6; blocks++ {
		for what, c := range map[string]struct{ from, to, version int }{"Format": {2, 6, 0}, "Put of a bound": {2, 4, 1}, "Put of a name": {4, 6, 1}} {
			d := disk(t, blocks)
			want := api.OK
			if blocks < c.to {
				want = api.ErrArg
			}
			tells(t, what, lays()[what](d), want)
			turns(t, what, d, 2*max(0, min(blocks, c.to)-c.from))
			for n := range blocks {
				b := make([]byte, 256)
				if n >= c.from && n < c.to {
					b = []sort{bound, named}[n/2-1].blockAs(api.Mark{Version: c.version})
				}
				stores(t, what, d, n, b)
			}
		}
	}
}

// A copy is written, and stored, ahead of the other one: what a Put has done at each of its turns.
func TestTheOrderOfLaying(t *testing.T) {
	was, is := api.Mark{Version: 1, Void: 1}, api.Mark{Version: 2, Last: api.Ident{Index: 6, Term: 1, Kind: 2}}
	each(t, func(t *testing.T, s sort) {
		for n := 1; n <= 5; n++ {
			d := disk(t, 6)
			mark.Put(d, s.kind, was)
			d.Arm(n)
			told := api.ErrDown
			if n > 4 {
				told = api.OK
			}
			tells(t, "Put", mark.Put(d, s.kind, is), told)
			turns(t, "Put", d, 4+n-1)
			for i, copied := range s.copies {
				want := was
				if n > 2*i+2 {
					want = is
				}
				stores(t, "Put", d, copied, s.blockAs(want))
			}
			waits := 0
			if n == 2 || n == 4 {
				waits = 1
			}
			if st := d.Stat(); st.Waiting != waits || st.Down != (n < 5) {
				t.Errorf("armed by %d: %+v", n, st)
			}
		}
	})
}
