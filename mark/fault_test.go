package mark

import (
	"errors"
	"testing"

	"limpet/api"
	"limpet/dev"
)

// What is told of a block wraps what the layer below told, and keeps which block it was.
func TestAFaultWrapsItsCause(t *testing.T) {
	few, _ := dev.New(5)
	down, _ := dev.New(6)
	down.Crash()
	armed, _ := dev.New(6)
	armed.Arm(4)
	_, small := get(few, api.UnitNamed)
	_, off := open(down, api.UnitBound)
	for says, c := range map[string]struct {
		err   error
		block int
		e     api.Errno
	}{
		"at the block 5: a layer below told 2":  {small, 5, api.ErrArg},
		"at the block 2: a layer below told 11": {off, 2, api.ErrDown},
		"at the block 3: a layer below told 11": {lay(armed, api.UnitBound, api.Mark{}), 3, api.ErrDown},
		"at the block 4: a layer below told 1":  {layFrom(nil, api.UnitNamed, api.Mark{}), 4, api.ErrNil},
	} {
		var f fault
		if !errors.As(c.err, &f) || f.block != c.block || !errors.Is(c.err, told(c.e)) {
			t.Errorf("%s: no fault, or of another cause: %v", says, c.err)
			continue
		}
		if f.Error() != says || errno(c.err) != c.e {
			t.Errorf("%s: %v, %d", says, f, errno(c.err))
		}
	}
	if failed(2, api.OK) != nil {
		t.Error("a fault of what is done")
	}
}

func TestErrno(t *testing.T) {
	for e, err := range map[api.Errno]error{
		api.OK:       nil,
		api.ErrArg:   fault{cause: errWrong},
		api.ErrShape: fault{cause: errBody},
		api.ErrLost:  errLost,
		api.ErrSum:   told(api.ErrSum),
		api.ErrKind:  fault{block: 3, cause: told(api.ErrKind)},
	} {
		if got := errno(err); got != e {
			t.Errorf("of %v %d is told, not %d", err, got, e)
		}
	}
	if e := errno(layFrom(nil, api.UnitMeta, api.Mark{})); e != api.ErrArg {
		t.Errorf("of no sort %d is told", e)
	}
}

// Why a copy has no mark is kept of it.
func TestWhatACopyLacks(t *testing.T) {
	d, _ := dev.New(6)
	lay(d, api.UnitBound, api.Mark{Version: 3})
	d.Rot(3, 80, 1)
	l, err := look(d, api.UnitBound)
	if err != nil || len(l) != 2 {
		t.Fatal(l, err)
	}
	if l[0].lack != nil || l[0].number != 2 || l[0].mark.Version != 3 {
		t.Errorf("%v", l[0])
	}
	if errno(l[1].lack) != api.ErrSum || l[1].number != 3 || l[1].mark != (api.Mark{}) {
		t.Errorf("%v", l[1])
	}
}
