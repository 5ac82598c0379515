package unit

import (
	"errors"
	"testing"

	"limpet/api"
)

// What a flaw tells, each of them wrapped about its cause.
func TestFlawWrapsItsCause(t *testing.T) {
	small, great := sealed(api.Unit{Kind: 3, Num: 4, Body: []byte("abc")}), sealed(api.Unit{Kind: 3, Num: 4, Body: make([]byte, 30)})
	spoilt := func(b []byte, at int, by byte) []byte {
		b = append([]byte(nil), b...)
		b[at] = by
		copy(b[sumAt:], laid(field{sumWidth, int(sumOf(b))}))
		return b
	}
	for _, c := range []struct {
		b     []byte
		cause error
		e     api.Errno
		says  string
	}{
		{small[:255], errBytes, api.ErrShape, "at the byte 255: a block has another number of bytes"},
		{append(small[:256:256], 0), errBytes, api.ErrShape, "at the byte 256: a block has another number of bytes"},
		{make([]byte, 256), errKind, api.ErrShape, "at the byte 0: there is no unit of this kind"},
		{append([]byte{4}, small[1:]...), errSum, api.ErrSum, "at the byte 28: the sum does not fit"},
		{spoilt(small, 6, 2), errNum, api.ErrShape, "at the byte 1: there is no unit of this number"},
		{spoilt(small, 7, 240), errBody, api.ErrShape, "at the byte 7: a body has not so many bytes"},
		{spoilt(small, 27, 9), errNought, api.ErrShape, "at the byte 27: a nought must stand here"},
		{spoilt(small, 33, 9), errNought, api.ErrShape, "at the byte 33: a nought must stand here"},
		{spoilt(great, 100, 9), errNought, api.ErrShape, "at the byte 100: a nought must stand here"},
		{spoilt(small, 255, 1), errEnd, api.ErrShape, "at the byte 255: the end is another one"},
		{spoilt(great, 255, 0), errEnd, api.ErrShape, "at the byte 255: the end is another one"},
	} {
		_, err := open(c.b)
		var f flaw
		if !errors.As(err, &f) || !errors.Is(err, c.cause) {
			t.Fatalf("%s: no flaw, or of another cause: %v", c.says, err)
		}
		if errno(err) != c.e || f.Error() != c.says {
			t.Errorf("%s: %v, %d", c.says, f, errno(err))
		}
	}
}

func TestStrangeWrapsItsCause(t *testing.T) {
	u := api.Unit{Kind: 3, Num: 4}
	for _, num := range []int{4, -1} {
		if err := strange(u, 3, num); err != nil || errno(err) != api.OK {
			t.Errorf("what it is: %v", err)
		}
	}
	for says, err := range map[string]error{
		"at the byte 0: the unit is another one than was asked for": strange(u, 2, 5),
		"at the byte 1: the unit is another one than was asked for": strange(u, 3, 5),
	} {
		if !errors.Is(err, errOther) || errno(err) != api.ErrKind || err.Error() != says {
			t.Errorf("%s: %v", says, err)
		}
	}
}
