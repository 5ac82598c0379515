package unit_test

import (
	"bytes"
	"math"
	"slices"
	"testing"

	"limpet/api"
	"limpet/unit"
)

// said is what Open answers by the chapter's words: a unit is that whose block b is.
func said(b []byte) (api.Unit, api.Errno) {
	if len(b) != 256 || b[0] < 1 || b[0] > 8 {
		return api.Unit{}, api.ErrShape
	}
	if !bytes.Equal(b[28:32], sumBytes(b)) {
		return api.Unit{}, api.ErrSum
	}
	u := api.Unit{Kind: api.UnitKind(b[0])}
	for i := 6; i >= 1; i-- {
		u.Num = u.Num*256 + int(b[i])
	}
	if u.Num > 1<<40 || b[7] > 239 {
		return api.Unit{}, api.ErrShape
	}
	u.Body = slices.Concat(b[8:28], b[36:255])[:b[7]]
	if !bytes.Equal(b, blockOf(u)) {
		return api.Unit{}, api.ErrShape
	}
	return u, api.OK
}

// opens sees that Open, and As by its unit and by others, answer what they should, and change nothing.
func opens(t *testing.T, what string, b []byte, want api.Errno) {
	t.Helper()
	before := bytes.Clone(b)
	u, e := said(b)
	if e != want {
		t.Fatalf("%s: the words ask for %d, not %d", what, e, want)
	}
	if got, e := unit.Open(b); e != want || !same(got, u) {
		t.Fatalf("%s: %v, %d, not %v, %d", what, got, e, u, want)
	}
	if body, e := unit.As(b, u.Kind, u.Num); e != want || !bytes.Equal(body, u.Body) {
		t.Fatalf("%s: as what it is: %v, %d, not %v, %d", what, body, e, u.Body, want)
	}
	other := want
	if want == api.OK {
		other = api.ErrKind
	}
	if body, e := unit.As(b, u.Kind+1, -1); e != other || len(body) != 0 {
		t.Fatalf("%s: as another one: %v, %d, not %d", what, body, e, other)
	}
	if !bytes.Equal(b, before) {
		t.Fatalf("%s: the block is changed", what)
	}
}

// some are units of all lengths at which something changes.
func some() []api.Unit {
	var l []api.Unit
	for i, many := range lengths {
		l = append(l, api.Unit{Kind: kinds[i%8], Num: nums[i%len(nums)], Body: text(many)})
	}
	return l
}

// changed is the block b with other bytes from at on.
func changed(b []byte, at int, by ...byte) []byte {
	out := bytes.Clone(b)
	copy(out[at:], by)
	return out
}

// P4.2

func TestBlocksOfOtherLengths(t *testing.T) {
	opens(t, "nil", nil, api.ErrShape)
	for _, u := range some() {
		b := blockOf(u)
		for _, many := range []int{0, 1, 8, 28, 32, 36, 37, 128, 254, 255} {
			opens(t, "cut", b[:many], api.ErrShape)
		}
		opens(t, "whole", b, api.OK)
		for _, behind := range []int{1, 2, 256, 1000} {
			opens(t, "with something behind", append(bytes.Clone(b), text(behind)...), api.ErrShape)
			opens(t, "with noughts behind", append(bytes.Clone(b), make([]byte, behind)...), api.ErrShape)
		}
	}
}

func TestKindsOfABlock(t *testing.T) {
	for _, many := range lengths {
		b := blockOf(api.Unit{Kind: 1, Num: 2, Body: text(many)})
		for k := range 256 {
			fits, want := resealed(changed(b, 0, byte(k))), api.OK
			if k < 1 || k > 8 {
				want = api.ErrShape
			}
			opens(t, "a sum that fits", fits, want)
			if want == api.OK {
				want = api.ErrSum
			}
			opens(t, "one that does not", changed(fits, 28, fits[28]^1), want)
		}
	}
	opens(t, "noughts", make([]byte, 256), api.ErrShape)
	opens(t, "noughts, with their sum", resealed(make([]byte, 256)), api.ErrShape)
	opens(t, "all bits", bytes.Repeat([]byte{255}, 256), api.ErrShape)
}

// Each byte another one, its sum as it was: what is first asked is the kind, and the gap is in no sum.
func TestEachByteAnotherOne(t *testing.T) {
	for _, u := range some() {
		b := blockOf(u)
		for at := range 256 {
			for turn := 1; turn < 256; turn += 1 + turn%11 {
				c := b[at] ^ byte(turn)
				want := api.ErrSum
				if at == 0 && (c < 1 || c > 8) || at >= 32 && at < 36 {
					want = api.ErrShape
				}
				opens(t, "a sum as it was", changed(b, at, c), want)
			}
		}
	}
}

// Each byte another one, with a sum that fits: what there is then is another unit, or none.
func TestEachByteAnotherOneSealed(t *testing.T) {
	for _, u := range some() {
		b := blockOf(u)
		front, back := min(len(u.Body), 20), max(len(u.Body)-20, 0)
		for at := range 256 {
			for turn := 1; turn < 256; turn += 1 + turn%11 {
				other := changed(b, at, b[at]^byte(turn))
				switch {
				case at >= 28 && at < 32: // the sum
					opens(t, "sealed anew", resealed(other), api.OK)
				case at >= 8 && at < 8+front, at >= 36 && at < 36+back: // the body
					opens(t, "another body", resealed(other), api.OK)
				case at >= 8: // noughts, and the end
					opens(t, "no nought", resealed(other), api.ErrShape)
				default:
					_, want := said(resealed(other))
					opens(t, "another head", resealed(other), want)
				}
			}
		}
	}
}

func TestTheOrderOfErrors(t *testing.T) {
	b := blockOf(api.Unit{Kind: 3, Num: 4, Body: text(30)})
	torn := func(b []byte) []byte { return changed(b, 30, b[30]^0x10) }
	for _, c := range []struct {
		what string
		b    []byte
	}{
		{"a great number", resealed(changed(b, 1, 1, 0, 0, 0, 0, 1))},
		{"a long body", resealed(changed(b, 7, 240))},
		{"a short body", resealed(changed(b, 7, 29))},
		{"no end", resealed(changed(b, 255, 0))},
		{"something in the gap", changed(b, 34, 1)},
		{"something behind the body", resealed(changed(b, 254, 1))},
	} {
		opens(t, c.what, c.b, api.ErrShape)
		opens(t, c.what+", and the sum", torn(c.b), api.ErrSum)
		opens(t, c.what+", and the kind", changed(c.b, 0, 9), api.ErrShape)
		opens(t, c.what+", the sum, the kind", changed(torn(c.b), 0, 0), api.ErrShape)
		opens(t, c.what+", the sum, a byte too few", torn(c.b)[:255], api.ErrShape)
	}
}

func TestNumbersOfABlock(t *testing.T) {
	for _, u := range some() {
		b := blockOf(u)
		for _, c := range []struct {
			num  []byte
			want api.Errno
		}{
			{[]byte{0, 0, 0, 0, 0, 0}, api.OK},
			{[]byte{255, 255, 255, 255, 255, 0}, api.OK},
			{[]byte{0, 0, 0, 0, 0, 1}, api.OK},
			{[]byte{1, 0, 0, 0, 0, 1}, api.ErrShape},
			{[]byte{0, 0, 0, 0, 1, 1}, api.ErrShape},
			{[]byte{0, 0, 0, 0, 0, 2}, api.ErrShape},
			{[]byte{0, 0, 0, 0, 0, 128}, api.ErrShape},
			{[]byte{255, 255, 255, 255, 255, 255}, api.ErrShape},
		} {
			opens(t, "a number", resealed(changed(b, 1, c.num...)), c.want)
		}
	}
}

// How many bytes the body has, another number than there are: fewer leave something behind it, more have noughts.
func TestLengthsOfABlock(t *testing.T) {
	for _, u := range some() {
		b := blockOf(u)
		for many := range 256 {
			want := api.ErrShape
			if many >= len(u.Body) && many <= 239 && (many > 20) == (len(u.Body) > 20) {
				want = api.OK
			}
			opens(t, "a length", resealed(changed(b, 7, byte(many))), want)
		}
	}
	full := blockOf(api.Unit{Kind: 5, Num: 6, Body: make([]byte, 239)})
	for many := range 256 {
		want := api.ErrShape
		if many > 20 && many <= 239 {
			want = api.OK
		}
		opens(t, "a length of noughts", resealed(changed(full, 7, byte(many))), want)
	}
}

func TestTheEnd(t *testing.T) {
	for many := range 240 {
		b := blockOf(api.Unit{Kind: 5, Num: 6, Body: text(many)})
		for end := range 256 {
			want := api.ErrShape
			if end == 0 && many <= 20 || end == 1 && many > 20 {
				want = api.OK
			}
			opens(t, "an end", resealed(changed(b, 255, byte(end))), want)
		}
	}
}

// Blocks that are spoilt at some places, and sealed or not: bytes that mean something are among them.
func TestOpenIsWhatTheChapterSays(t *testing.T) {
	d := &dice{1}
	told := map[api.Errno]int{}
	for range 60_000 {
		u := api.Unit{Kind: kinds[d.below(8)], Num: nums[d.below(len(nums))], Body: text(lengths[d.below(len(lengths))])}
		b := blockOf(u)
		for range d.below(4) {
			at := []int{d.below(256), d.below(8), 28 + d.below(8), 255}[d.below(4)]
			b[at] = []byte{byte(d.below(256)), byte(d.below(3)), 20, 240}[d.below(4)]
		}
		if d.below(3) > 0 {
			b = resealed(b)
		}
		if d.below(20) == 0 {
			b = b[:d.below(257)]
		}
		_, want := said(b)
		opens(t, "by the words", b, want)
		told[want]++
	}
	for _, e := range []api.Errno{api.OK, api.ErrShape, api.ErrSum} {
		if told[e] < 1000 {
			t.Errorf("%d was told %d times: the blocks are not well chosen", e, told[e])
		}
	}
}

func TestOpenKeepsNothingAndHandsOutNewMemory(t *testing.T) {
	for _, many := range []int{1, 20, 21, 239} {
		b := blockOf(api.Unit{Kind: 5, Num: 6, Body: text(many)})
		one, _ := unit.Open(b)
		other, _ := unit.Open(b)
		as, _ := unit.As(b, 5, 6)
		_ = append(one.Body, text(300)...)
		_ = append(as, text(300)...)
		opens(t, "behind what was handed out", b, api.OK)
		clear(one.Body)
		opens(t, "what was handed out is cleared", b, api.OK)
		clear(b)
		if !bytes.Equal(other.Body, text(many)) || !bytes.Equal(as, text(many)) {
			t.Errorf("of %d bytes: memory is shared", many)
		}
	}
}

// P4.3

func TestAs(t *testing.T) {
	for _, u := range some() {
		b := blockOf(u)
		for _, k := range append(slices.Clone(noKinds), kinds...) {
			for _, num := range append([]int{u.Num, u.Num + 1, u.Num - 1, u.Num + 256, u.Num + 1<<48}, append(nums, noNums...)...) {
				var body []byte
				want := api.ErrKind
				if k == u.Kind && (num == u.Num || num < 0) {
					body, want = u.Body, api.OK
				}
				if got, e := unit.As(b, k, num); e != want || !bytes.Equal(got, body) {
					t.Errorf("%v as %d, %d: %v, %d, not %d", u, k, num, got, e, want)
				}
			}
		}
	}
}

func TestAsOfABlockThatIsNotOpened(t *testing.T) {
	b := blockOf(api.Unit{Kind: 3, Num: 4, Body: text(40)})
	for _, c := range []struct {
		b    []byte
		want api.Errno
	}{
		{nil, api.ErrShape},
		{b[:255], api.ErrShape},
		{append(bytes.Clone(b), 0), api.ErrShape},
		{changed(b, 0, 0), api.ErrShape},
		{changed(b, 9, 0), api.ErrSum},
		{changed(b, 33, 1), api.ErrShape},
		{resealed(changed(b, 255, 0)), api.ErrShape},
		{resealed(changed(b, 6, 9)), api.ErrShape},
	} {
		for _, k := range []api.UnitKind{3, 2, 0, -1, 9} {
			for _, num := range []int{4, 5, 0, -1, math.MinInt, math.MaxInt} {
				if body, e := unit.As(c.b, k, num); e != c.want || len(body) != 0 {
					t.Errorf("%v as %d, %d: %v, %d, not %d", c.b, k, num, body, e, c.want)
				}
			}
		}
	}
}
