package seg

import (
	"errors"
	"testing"

	"limpet/api"
)

// raised is what do panics with.
func raised(do func()) (r any) {
	defer func() { r = recover() }()
	do()
	return nil
}

// What the inner calls panic with wraps its cause, and keeps the number of the unit.
func TestAFaultWrapsItsCause(t *testing.T) {
	s := segmentOf(api.Shape{Segments: 2, Records: 1, Pieces: 1}, 7)
	none := segmentOf(api.Shape{Records: 1}, 7)
	for says, c := range map[string]struct {
		do    func()
		cause error
		e     api.Errno
	}{
		"of the number 9: the entry is not right":                  {func() { record{Entry: api.Entry{Index: 9}}.unit() }, errEntry, api.ErrArg},
		"of the number 9: what is ahead is not the ident ahead":    {func() { record{Entry: api.Entry{Index: 9, Kind: 1}}.unit() }, errOrder, api.ErrOrder},
		"of the number -3: there is no index below 0":              {func() { recordOf(nil, -3) }, errIndex, api.ErrShape},
		"of the number 5: a layer below told 4":                    {func() { recordOf(nil, 5) }, told(api.ErrShape), api.ErrShape},
		"of the number 7: a layer below told 4":                    {func() { s.ahead(nil) }, told(api.ErrShape), api.ErrShape},
		"of the number 7: there is no segment of this number":      {func() { none.head(api.Ident{}) }, errSegment, api.ErrArg},
		"of the number 7: a segment has another number of records": {func() { s.foot() }, errMany, api.ErrArg},
		"of the number 8: a layer below told 4":                    {func() { s.foot(nil) }, told(api.ErrShape), api.ErrShape},
	} {
		f, ok := raised(c.do).(fault)
		if !ok || !errors.Is(f, c.cause) {
			t.Errorf("%s: no fault, or of another cause: %v", says, f)
			continue
		}
		if f.Error() != says || errno(f) != c.e || tried(c.do) != c.e {
			t.Errorf("%s: %v, %d, %d", says, f, errno(f), tried(c.do))
		}
	}
}

func TestMust(t *testing.T) {
	if r := raised(func() { must(1, nil) }); r != nil {
		t.Errorf("of no error: %v", r)
	}
	if r := raised(func() { must(1, errFoot) }); r != (fault{1, errFoot}) {
		t.Errorf("of an error: %v", r)
	}
}

// A panic that is no fault is the program's own mistake: it is not told as if it were an answer.
func TestTried(t *testing.T) {
	if e := tried(func() {}); e != api.OK {
		t.Errorf("of what ends well: %d", e)
	}
	other := errors.New("something else")
	if r := raised(func() { tried(func() { panic(other) }) }); r != other {
		t.Errorf("of another panic: %v", r)
	}
}

func TestErrno(t *testing.T) {
	for e, err := range map[api.Errno]error{
		api.ErrArg:   fault{1, errEntry},
		api.ErrShape: fault{1, errBody},
		api.ErrSum:   fault{1, errFoot},
		api.ErrOrder: fault{1, errOrder},
		api.ErrKind:  fault{1, told(api.ErrKind)},
	} {
		if got := errno(err); got != e {
			t.Errorf("of %v %d is told, not %d", err, got, e)
		}
	}
}
