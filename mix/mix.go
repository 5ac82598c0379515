// Package mix is layer 1, sums of units: see shared/doc/01-mix.md.
package mix

import (
	"errors"
	"strconv"

	"limpet/api"
)

// Polynomials are numbers here, whose lowest bit is the coefficient of x^31.
const (
	divisor uint32 = 0x82F63B78 // without its x^32
	octet   uint32 = 1 << 23    // x^8: what a byte more multiplies a sum by
)

var errSum = errors.New("the sum does not fit")

// misfit is bytes that have another sum than they should.
type misfit struct {
	own, asked uint32
	cause      error
}

func (m misfit) Error() string {
	return m.cause.Error() + ": it is " + hex(m.own) + ", not " + hex(m.asked)
}

func (m misfit) Unwrap() error { return m.cause }

func hex(n uint32) string { return "0x" + strconv.FormatUint(uint64(n), 16) }

// Sum is the sum of all parts' bytes, one part behind the other.
func Sum(parts ...[]byte) uint32 {
	t := newTable()
	sum := ^uint32(0)
	for _, part := range parts {
		sum = t.addPart(sum, part)
	}
	return ^sum
}

// Join is the sum of the bytes of sum a with the many bytes of sum b behind them.
func Join(a, b uint32, many int) uint32 {
	if many < 1 {
		return a
	}
	// By squares: many may be too great to go through one by one, and 8 times many too great for an int.
	for square := octet; many > 0; many >>= 1 {
		if many&1 == 1 {
			a = times(a, square)
		}
		square = times(square, square)
	}
	return a ^ b
}

// Fits says whether b has that sum.
func Fits(b []byte, sum uint32) api.Errno {
	if errors.Is(check(b, sum), errSum) {
		return api.ErrSum
	}
	return api.OK
}

func check(b []byte, sum uint32) error {
	if own := Sum(b); own != sum {
		return misfit{own: own, asked: sum, cause: errSum}
	}
	return nil
}

// shift multiplies by x: a shift to the right, and the divisor if the bit that went out was 1.
func shift(p uint32) uint32 {
	if p&1 == 1 {
		return p>>1 ^ divisor
	}
	return p >> 1
}

// times is the product's remainder by the divisor.
func times(p, q uint32) uint32 {
	var product uint32
	for ; p != 0; p <<= 1 {
		if p>>31 == 1 {
			product ^= q
		}
		q = shift(q)
	}
	return product
}
