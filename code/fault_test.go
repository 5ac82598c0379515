package code

import (
	"errors"
	"testing"

	"limpet/api"
)

// What a fault tells, each of them wrapped about its cause.
func TestFaultWrapsItsCause(t *testing.T) {
	for _, c := range []struct {
		b     []byte
		do    func(r *Reader)
		cause error
		e     api.Errno
		says  string
	}{
		{[]byte{7}, func(r *Reader) { r.Field(1); r.Field(3) }, errWidth, api.ErrShape, "at the byte 1: there is no field of this width"},
		{[]byte{7}, func(r *Reader) { r.Field(2) }, errFew, api.ErrShape, "at the byte 0: there are too few bytes"},
		{[]byte{1, 0, 0, 0, 0, 1}, func(r *Reader) { r.Field(6) }, errGreat, api.ErrShape, "at the byte 0: the number is above the greatest one"},
		{[]byte{1, 0, 7}, func(r *Reader) { r.Text(0) }, errMuch, api.ErrLong, "at the byte 0: there is more than was asked for"},
		{make([]byte, 15), func(r *Reader) { r.Entry() }, errEntry, api.ErrShape, "at the byte 0: the entry is not right"},
	} {
		r := Read(c.b)
		c.do(r)
		var f fault
		if !errors.As(r.err, &f) {
			t.Fatalf("%s: no fault: %v", c.says, r.err)
		}
		if !errors.Is(f, c.cause) || f.errno() != c.e || f.Error() != c.says {
			t.Errorf("%s: %v, %d", c.says, f, f.errno())
		}
	}
}
