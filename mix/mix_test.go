package mix_test

import (
	"bytes"
	"hash/crc32"
	"math"
	"testing"

	"limpet/api"
	"limpet/mix"
)

const turned uint32 = 0x82F63B78

// shifted is n, so many times shifted to the right, as the chapter says it.
func shifted(n uint32, times int) uint32 {
	for range times {
		out := n & 1
		n >>= 1
		if out == 1 {
			n ^= turned
		}
	}
	return n
}

// bitwise is the sum as the chapter says it in its brackets.
func bitwise(b []byte) uint32 {
	n := uint32(0xFFFFFFFF)
	for _, c := range b {
		n = shifted(n^uint32(c), 8)
	}
	return ^n
}

// divided is the sum as the chapter says it by polynomials: coefficients from the highest power down, and long division.
func divided(b []byte) uint32 {
	bits := make([]int, 8*len(b)+32)
	for i := range 8 * len(b) {
		bits[i] = int(b[i/8] >> (i % 8) & 1)
	}
	for i := range 32 {
		bits[i] ^= 1
	}
	for i := range 8 * len(b) {
		if bits[i] == 0 {
			continue
		}
		for _, power := range []int{32, 28, 27, 26, 25, 23, 22, 20, 19, 18, 14, 13, 11, 10, 9, 8, 6, 0} {
			bits[i+32-power] ^= 1
		}
	}
	var sum uint32
	for i, bit := range bits[8*len(b):] { // the first of them is the coefficient of x^31
		sum |= uint32(bit^1) << i
	}
	return sum
}

// numbers is a row that looks like chance, and is the same each time.
func numbers(seed uint32, many int) []uint32 {
	l := make([]uint32, many)
	for i := range l {
		seed = seed*1664525 + 1013904223
		l[i] = seed ^ seed>>15
	}
	return l
}

func row(seed uint32, many int) []byte {
	b := make([]byte, many)
	for i, n := range numbers(seed, many) {
		b[i] = byte(n >> 8)
	}
	return b
}

// P1.1

func TestSumOfTheExamples(t *testing.T) {
	for _, c := range []struct {
		b    []byte
		want uint32
	}{
		{nil, 0},
		{[]byte{}, 0},
		{[]byte("123456789"), 0xE3069283},
		{make([]byte, 32), 0x8A9136AA},
		{bytes.Repeat([]byte{0xFF}, 32), 0x62A8AB43},
		{[]byte("a"), 0xC1D04330},
	} {
		if got := mix.Sum(c.b); got != c.want {
			t.Errorf("of %q: %#x, not %#x", c.b, got, c.want)
		}
	}
}

func TestSumIsWhatTheChapterSays(t *testing.T) {
	castagnoli := crc32.MakeTable(crc32.Castagnoli)
	for many := range 300 {
		b := row(uint32(many), many)
		got := mix.Sum(b)
		if want := bitwise(b); got != want {
			t.Errorf("of %d bytes: %#x, not %#x", many, got, want)
		}
		if want := divided(b); got != want {
			t.Errorf("of %d bytes: %#x, by division %#x", many, got, want)
		}
		if want := crc32.Checksum(b, castagnoli); got != want {
			t.Errorf("of %d bytes: %#x, by the library %#x", many, got, want)
		}
	}
	for c := range 256 {
		if got, want := mix.Sum([]byte{byte(c)}), bitwise([]byte{byte(c)}); got != want {
			t.Errorf("of the byte %d: %#x, not %#x", c, got, want)
		}
	}
}

func TestSumOfNothing(t *testing.T) {
	if got := mix.Sum(); got != 0 {
		t.Errorf("no parts: %#x", got)
	}
	if got := mix.Sum(nil); got != 0 {
		t.Errorf("a nil part: %#x", got)
	}
	if got := mix.Sum([]byte{}, nil, []byte{}); got != 0 {
		t.Errorf("empty parts: %#x", got)
	}
}

func TestSumOfPartsOneBehindTheOther(t *testing.T) {
	if mix.Sum([]byte("ab"), []byte("c")) != bitwise([]byte("abc")) {
		t.Error("ab, c")
	}
	if mix.Sum([]byte("c"), []byte("ab")) != bitwise([]byte("cab")) {
		t.Error("c, ab")
	}
	var single [][]byte
	b := row(7, 100)
	for i := range b {
		single = append(single, b[i:i+1])
	}
	if mix.Sum(single...) != bitwise(b) {
		t.Error("a part for each byte")
	}
}

func TestSumChangesNoPart(t *testing.T) {
	one, two := row(1, 41), row(2, 23)
	for range 2 {
		if mix.Sum(one, two) != bitwise(append(row(1, 41), row(2, 23)...)) {
			t.Error("the sum")
		}
	}
	if !bytes.Equal(one, row(1, 41)) || !bytes.Equal(two, row(2, 23)) {
		t.Error("a part is changed")
	}
}

// P1.2

func TestJoinOfTwoRows(t *testing.T) {
	b := row(3, 70)
	for i := range len(b) + 1 {
		if got := mix.Join(bitwise(b[:i]), bitwise(b[i:]), len(b)-i); got != bitwise(b) {
			t.Errorf("%d bytes and %d: %#x", i, len(b)-i, got)
		}
	}
	many := 100_003
	long := row(4, many)
	if got := mix.Join(mix.Sum(b), mix.Sum(long), many); got != bitwise(append(row(3, 70), long...)) {
		t.Errorf("many bytes: %#x", got)
	}
}

func TestJoinWithManyBelowOne(t *testing.T) {
	for _, many := range []int{0, -1, -2, -3, -8, math.MinInt32, math.MinInt + 1, math.MinInt} {
		for _, a := range []uint32{0, 1, 5, 0xE3069283, math.MaxUint32} {
			for _, b := range []uint32{0, 6, a, math.MaxUint32} {
				if got := mix.Join(a, b, many); got != a {
					t.Errorf("%#x, %#x, %d: %#x", a, b, many, got)
				}
			}
		}
	}
}

func TestJoinIsShiftingBitByBit(t *testing.T) {
	sums := append(numbers(5, 30), 0, 1, 2, 0x80000000, 0x7FFFFFFF, turned, math.MaxUint32)
	for i, a := range sums {
		b := sums[(i*11+3)%len(sums)]
		for many := 1; many <= 130; many++ {
			if got, want := mix.Join(a, b, many), shifted(a, 8*many)^b; got != want {
				t.Errorf("%#x, %#x, %d: %#x, not %#x", a, b, many, got, want)
			}
		}
	}
	for _, many := range []int{1000, 65535, 65536, 1 << 20} {
		if got, want := mix.Join(0x12345678, 0x9ABCDEF0, many), shifted(0x12345678, 8*many)^0x9ABCDEF0; got != want {
			t.Errorf("%d: %#x, not %#x", many, got, want)
		}
	}
}

// Shifting comes back to where it was after 2^31 - 1 shifts: a great many is as good as what is left of it by that.
func TestJoinWithLargeMany(t *testing.T) {
	const round = 1<<31 - 1
	for _, a := range numbers(6, 20) {
		b := ^a * 3
		for _, many := range []int{round, round + 1, round + 17, 2*round + 5, 1 << 60, 1<<60 + 1, 1 << 61, 1 << 62, math.MaxInt - 1, math.MaxInt} {
			left := many % round
			if got, want := mix.Join(a, b, many), mix.Join(a, 0, left)^b; got != want {
				t.Errorf("%#x, %d: %#x, not %#x", a, many, got, want)
			}
		}
		if got := mix.Join(a, b, round); got != a^b {
			t.Errorf("%#x, a round: %#x", a, got)
		}
		if got := mix.Join(a, b, math.MaxInt); got != shifted(a, 8)^b {
			t.Errorf("%#x, the most: %#x", a, got)
		}
		if got := mix.Join(mix.Join(a, b, 1<<40), 9, 1<<41); got != mix.Join(a, mix.Join(b, 9, 1<<41), 1<<40+1<<41) {
			t.Errorf("%#x, joined twice: %#x", a, got)
		}
	}
}

// P1.3

func TestFits(t *testing.T) {
	for many := range 40 {
		b := row(8, many)
		sum := bitwise(b)
		if e := mix.Fits(b, sum); e != api.OK {
			t.Errorf("%d bytes: %d", many, e)
		}
		for bit := range 32 {
			if e := mix.Fits(b, sum^1<<bit); e != api.ErrSum {
				t.Errorf("%d bytes, bit %d of the sum turned: %d", many, bit, e)
			}
		}
		for _, other := range []uint32{sum + 1, sum - 1, ^sum} {
			if e := mix.Fits(b, other); e != api.ErrSum {
				t.Errorf("%d bytes, %#x: %d", many, other, e)
			}
		}
		if !bytes.Equal(b, row(8, many)) {
			t.Errorf("%d bytes are changed", many)
		}
	}
}

func TestFitsOfNothing(t *testing.T) {
	for _, b := range [][]byte{nil, {}} {
		if e := mix.Fits(b, 0); e != api.OK {
			t.Errorf("0: %d", e)
		}
		if e := mix.Fits(b, 1); e != api.ErrSum {
			t.Errorf("1: %d", e)
		}
	}
}

func TestFitsOfOtherBytes(t *testing.T) {
	sum := mix.Sum([]byte("123456789"))
	for _, other := range []string{"", "12345678", "1234567890", "123456798", "123456789\x00", "\x00123456789"} {
		if e := mix.Fits([]byte(other), sum); e != api.ErrSum {
			t.Errorf("%q: %d", other, e)
		}
	}
}

// P1.4

func TestSumHangsOnTheBytesAlone(t *testing.T) {
	b := row(9, 37)
	want := bitwise(b)
	for i := range len(b) + 1 {
		if got := mix.Sum(b[:i], b[i:]); got != want {
			t.Errorf("parted at %d: %#x", i, got)
		}
		for j := i; j <= len(b); j++ {
			if got := mix.Sum(nil, b[:i], []byte{}, b[i:j], nil, b[j:]); got != want {
				t.Errorf("parted at %d and %d: %#x", i, j, got)
			}
		}
	}
}

// runs are masks of what differs, the lowest bit first: all short ones, and of each length up to 32 some others.
func runs() []uint32 {
	var l []uint32
	for mask := uint32(1); mask < 1<<7; mask += 2 {
		l = append(l, mask)
	}
	for long := 8; long <= 32; long++ {
		ends := uint32(1) | 1<<(long-1)
		inner := uint32(1)<<(long-1) - 1
		l = append(l, ends, ends|inner)
		for _, n := range numbers(uint32(long), 6) {
			l = append(l, ends|n&inner)
		}
	}
	return append(l, turned, turned|1)
}

func TestRunsOfBitsThatDifferAreSeen(t *testing.T) {
	for _, many := range []int{1, 2, 3, 4, 5, 8, 11, 31, 64} {
		b := row(10, many)
		sum := mix.Sum(b)
		for place := range 8 * many {
			for _, mask := range runs() {
				other := bytes.Clone(b)
				for bit := range min(32, 8*many-place) {
					other[(place+bit)/8] ^= byte(mask>>bit&1) << ((place + bit) % 8)
				}
				same := bytes.Equal(b, other)
				if got := mix.Sum(other); (got == sum) != same {
					t.Fatalf("%d bytes, run %#x at bit %d: %#x, of the others %#x", many, mask, place, got, sum)
				}
				if e := mix.Fits(other, sum); (e == api.ErrSum) == same {
					t.Fatalf("%d bytes, run %#x at bit %d: %d", many, mask, place, e)
				}
			}
		}
	}
}

// Runs at each place of a whole block, as the disks turn them.
func TestRunsInABlockAreSeen(t *testing.T) {
	b := row(11, api.Block)
	sum := mix.Sum(b)
	for place := range 8*api.Block - 31 {
		for _, mask := range []uint32{1, 0x80000001, math.MaxUint32, turned} {
			other := bytes.Clone(b)
			for bit := range 32 {
				other[(place+bit)/8] ^= byte(mask>>bit&1) << ((place + bit) % 8)
			}
			if mix.Sum(other) == sum {
				t.Errorf("run %#x at bit %d", mask, place)
			}
		}
	}
}
