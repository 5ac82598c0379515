package meta

import (
	"errors"
	"testing"

	"limpet/api"
	"limpet/dev"
)

// What is told of a slot wraps what the layer below told, and keeps which slot it was.
func TestAFaultWrapsItsCause(t *testing.T) {
	one, _ := dev.New(1)
	down, _ := dev.New(2)
	down.Crash()
	armed, _ := dev.New(2)
	armed.Arm(4)
	_, small := keeper{one}.get()
	_, off := keeper{down}.get()
	for says, c := range map[string]struct {
		err  error
		slot int
		e    api.Errno
	}{
		"at the slot 1: a layer below told 2":  {small, 1, api.ErrArg},
		"at the slot 0: a layer below told 11": {off, 0, api.ErrDown},
		"at the slot 1: a layer below told 11": {keeper{armed}.put(api.Meta{}), 1, api.ErrDown},
		"at the slot 0: a layer below told 1":  {keeper{}.put(api.Meta{}), 0, api.ErrNil},
	} {
		var f fault
		if !errors.As(c.err, &f) || f.slot != c.slot || !errors.Is(c.err, told(c.e)) {
			t.Errorf("%s: no fault, or of another cause: %v", says, c.err)
			continue
		}
		if f.Error() != says || errno(c.err) != c.e {
			t.Errorf("%s: %v, %d", says, f, errno(c.err))
		}
	}
	if failed(0, api.OK) != nil {
		t.Error("a fault of what is done")
	}
}

func TestErrno(t *testing.T) {
	for e, err := range map[api.Errno]error{
		api.OK:       nil,
		api.ErrArg:   fault{cause: errWrong},
		api.ErrShape: fault{cause: errBody},
		api.ErrLost:  errLost,
		api.ErrSum:   told(api.ErrSum),
		api.ErrKind:  fault{slot: 1, cause: told(api.ErrKind)},
	} {
		if got := errno(err); got != e {
			t.Errorf("of %v %d is told, not %d", err, got, e)
		}
	}
}

// Why a slot has no meta is kept of it.
func TestWhatASlotLacks(t *testing.T) {
	d, _ := dev.New(2)
	keeper{d}.put(api.Meta{Version: 3})
	d.Rot(1, 80, 1)
	l, err := keeper{d}.look(frontSlot, backSlot)
	if err != nil || len(l) != 2 {
		t.Fatal(l, err)
	}
	if l[0].lack != nil || l[0].number != 0 || l[0].meta.Version != 3 {
		t.Errorf("%v", l[0])
	}
	if errno(l[1].lack) != api.ErrSum || l[1].number != 1 || l[1].meta != (api.Meta{}) {
		t.Errorf("%v", l[1])
	}
}
