package dev

import (
	"errors"
	"testing"

	"limpet/api"
)

func TestRefusalWrapsItsCause(t *testing.T) {
	d, _ := New(1)
	d.Arm(3)
	done := 0
	for range 2 {
		if err := d.turn(func() { done++ }); err != nil {
			t.Errorf("a turn that is done: %v", err)
		}
	}
	err := d.turn(func() { done++ })
	if done != 2 || !errors.Is(err, errDown) || errors.Is(err, errNil) {
		t.Fatalf("done %d, %v", done, err)
	}
	if want := "the turn 3 is not done: the disk is down"; err.Error() != want {
		t.Errorf("it says: %s", err.Error())
	}
}

func TestErrno(t *testing.T) {
	for _, c := range []struct {
		err error
		e   api.Errno
	}{
		{nil, api.OK},
		{errNil, api.ErrNil},
		{errDown, api.ErrDown},
		{errBlock, api.ErrArg},
		{errLong, api.ErrArg},
		{errSame, api.ErrArg},
		{errHurt, api.ErrKnown},
	} {
		if e := errno(c.err); e != c.e {
			t.Errorf("%v: %d", c.err, e)
		}
		if c.err == nil {
			continue
		}
		if e := errno(refusal{turn: 1, cause: c.err}); e != c.e {
			t.Errorf("%v, wrapped: %d", c.err, e)
		}
	}
}
