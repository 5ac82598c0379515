package unit_test

import (
	"bytes"
	"hash/crc32"
	"math"
	"slices"
	"testing"

	"limpet/api"
	"limpet/unit"
)

// dice are numbers that look like chance, and are the same each time.
type dice struct{ seed uint64 }

// below is a number from 0 to below n.
func (d *dice) below(n int) int {
	d.seed += 0x9E3779B97F4A7C15
	x := d.seed
	x = (x ^ x>>30) * 0xBF58476D1CE4E5B9
	x = (x ^ x>>27) * 0x94D049BB133111EB
	return int((x ^ x>>31) % uint64(n))
}

// text is so many bytes, none of them a nought, unlike those about them.
func text(many int) []byte {
	b := make([]byte, many)
	for i := range b {
		b[i] = byte(i%255 + 1)
	}
	return b
}

// sumBytes are the four of a block's sum, by the library.
func sumBytes(b []byte) []byte {
	sum := crc32.Checksum(slices.Concat(b[36:], b[:28]), crc32.MakeTable(crc32.Castagnoli))
	return []byte{byte(sum), byte(sum >> 8), byte(sum >> 16), byte(sum >> 24)}
}

// resealed is a block with a sum that fits.
func resealed(b []byte) []byte {
	out := bytes.Clone(b)
	copy(out[28:], sumBytes(out))
	return out
}

// blockOf is the block of a unit by the chapter's words, byte by byte.
func blockOf(u api.Unit) []byte {
	b := make([]byte, 256)
	b[0] = byte(u.Kind)
	num := u.Num
	for i := 1; i <= 6; i++ {
		b[i] = byte(num % 256)
		num /= 256
	}
	b[7] = byte(len(u.Body))
	for i, c := range u.Body {
		if i < 20 {
			b[8+i] = c
		} else {
			b[36+i-20] = c
			b[255] = 1
		}
	}
	return resealed(b)
}

func same(a, b api.Unit) bool {
	return a.Kind == b.Kind && a.Num == b.Num && bytes.Equal(a.Body, b.Body)
}

// seals sees that a unit is right, that its block is the chapter's, and that it is opened again.
func seals(t *testing.T, u api.Unit) {
	t.Helper()
	if !unit.Right(u) {
		t.Errorf("%v is not right", u)
	}
	b, e := unit.Seal(u)
	if e != api.OK || !bytes.Equal(b, blockOf(u)) {
		t.Fatalf("of %v the block %v, %d", u, b, e)
	}
	if got, e := unit.Open(b); e != api.OK || !same(got, u) {
		t.Fatalf("of the block of %v: %v, %d", u, got, e)
	}
}

// unsealable sees that a unit is not right, nor small, and has no block.
func unsealable(t *testing.T, u api.Unit) {
	t.Helper()
	if unit.Right(u) || unit.Small(u) {
		t.Errorf("%v is right, or small", u)
	}
	if b, e := unit.Seal(u); len(b) != 0 || e != api.ErrArg {
		t.Errorf("of %v the block %v, %d", u, b, e)
	}
}

var (
	kinds      = []api.UnitKind{1, 2, 3, 4, 5, 6, 7, 8}
	noKinds    = []api.UnitKind{math.MinInt, -255, -1, 0, 9, 10, 255, 256, 257, 264, 1 << 32, 1<<32 + 1, math.MaxInt}
	nums       = []int{0, 1, 255, 256, 0x0102030405, 1 << 32, 1<<40 - 1, 1 << 40}
	noNums     = []int{math.MinInt, -1 << 40, -256, -1, 1<<40 + 1, 1<<40 + 256, 1 << 48, 1<<48 + 1, math.MaxInt}
	lengths    = []int{0, 1, 2, 19, 20, 21, 22, 238, 239}
	noLengths  = []int{240, 241, 255, 256, 257, 275, 495, 65536}
	exampleSum = []byte{0xB0, 0x78, 0xB5, 0xEE} // by 0x82F63B78, bit by bit
)

// P4.1

func TestTheExample(t *testing.T) {
	want := slices.Concat([]byte{2, 1, 0, 0, 0, 0, 0, 1, 'a'}, make([]byte, 19), exampleSum, make([]byte, 224))
	b, e := unit.Seal(api.Unit{Kind: 2, Num: 1, Body: []byte("a")})
	if e != api.OK || !bytes.Equal(b, want) {
		t.Errorf("%v, %d, not %v", b, e, want)
	}
	if u, e := unit.Open(want); e != api.OK || !same(u, api.Unit{Kind: 2, Num: 1, Body: []byte("a")}) {
		t.Errorf("%v, %d", u, e)
	}
}

func TestWhereTheBytesOfAGreatUnitLie(t *testing.T) {
	body := text(239)
	b, e := unit.Seal(api.Unit{Kind: 8, Num: 0x0605040302, Body: body})
	if e != api.OK || len(b) != 256 {
		t.Fatal(b, e)
	}
	want := slices.Concat([]byte{8, 2, 3, 4, 5, 6, 0, 239}, body[:20], b[28:32], []byte{0, 0, 0, 0}, body[20:], []byte{1})
	if !bytes.Equal(b, want) || !bytes.Equal(b[28:32], sumBytes(b)) {
		t.Errorf("%v, not %v", b, want)
	}
}

func TestSealOfUnitsThatAreRight(t *testing.T) {
	for _, k := range kinds {
		for _, num := range nums {
			for _, many := range lengths {
				seals(t, api.Unit{Kind: k, Num: num, Body: text(many)})
			}
		}
	}
}

func TestSealOfEachLength(t *testing.T) {
	for many := range 240 {
		for _, body := range [][]byte{text(many), make([]byte, many), bytes.Repeat([]byte{255}, many)} {
			seals(t, api.Unit{Kind: 5, Num: many, Body: body})
		}
	}
}

func TestUnitsThatAreNotRight(t *testing.T) {
	for _, k := range noKinds {
		for _, many := range lengths {
			unsealable(t, api.Unit{Kind: k, Num: 3, Body: text(many)})
		}
	}
	for _, num := range noNums {
		for _, many := range lengths {
			unsealable(t, api.Unit{Kind: 3, Num: num, Body: text(many)})
		}
	}
	for _, many := range noLengths {
		for _, k := range kinds {
			unsealable(t, api.Unit{Kind: k, Num: 3, Body: make([]byte, many)})
		}
	}
	unsealable(t, api.Unit{})
}

func TestSmall(t *testing.T) {
	for many := range 240 {
		for _, k := range []api.UnitKind{1, 8} {
			if got := unit.Small(api.Unit{Kind: k, Num: 1 << 40, Body: text(many)}); got != (many <= 20) {
				t.Errorf("of %d bytes: %v", many, got)
			}
		}
	}
}

func TestNothingAndNilAreOneBody(t *testing.T) {
	none, _ := unit.Seal(api.Unit{Kind: 1, Num: 7})
	empty, _ := unit.Seal(api.Unit{Kind: 1, Num: 7, Body: []byte{}})
	if !bytes.Equal(none, empty) || len(none) != 256 {
		t.Errorf("%v, and %v", none, empty)
	}
}

func TestSealKeepsAndChangesNoArgument(t *testing.T) {
	for _, many := range []int{5, 20, 21, 100} {
		room := text(239)
		u := api.Unit{Kind: 5, Num: 9, Body: room[:many]}
		want := blockOf(u)
		first, _ := unit.Seal(u)
		second, _ := unit.Seal(u)
		unit.Right(u)
		unit.Small(u)
		if !bytes.Equal(room, text(239)) {
			t.Errorf("of %d bytes: the body, or what is behind it, is changed", many)
		}
		clear(room)
		clear(first)
		if !bytes.Equal(second, want) {
			t.Errorf("of %d bytes: a block is shared", many)
		}
		_ = append(second[:8], make([]byte, 248)...)
		if !bytes.Equal(room, make([]byte, 239)) {
			t.Errorf("of %d bytes: a block is the body's memory", many)
		}
	}
}
