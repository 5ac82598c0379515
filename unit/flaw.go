package unit

import (
	"errors"
	"strconv"

	"limpet/api"
)

var (
	errBytes  = errors.New("a block has another number of bytes")
	errKind   = errors.New("there is no unit of this kind")
	errSum    = errors.New("the sum does not fit")
	errNum    = errors.New("there is no unit of this number")
	errBody   = errors.New("a body has not so many bytes")
	errNought = errors.New("a nought must stand here")
	errEnd    = errors.New("the end is another one")
	errOther  = errors.New("the unit is another one than was asked for")
)

// flaw is why a block is not taken, and the place of what is wrong with it.
type flaw struct {
	at    int
	cause error
}

func (f flaw) Error() string {
	return "at the byte " + strconv.Itoa(f.at) + ": " + f.cause.Error()
}

func (f flaw) Unwrap() error { return f.cause }

func (f flaw) errno() api.Errno {
	switch {
	case errors.Is(f, errSum):
		return api.ErrSum
	case errors.Is(f, errOther):
		return api.ErrKind
	}
	return api.ErrShape // what else there is are blocks of no unit
}

// errno is the number that is told of an error.
func errno(err error) api.Errno {
	var f flaw
	if errors.As(err, &f) {
		return f.errno()
	}
	return api.OK
}

// strange is how a unit is another one than that of a kind and a number, if so.
func strange(u api.Unit, k api.UnitKind, num int) error {
	switch {
	case u.Kind != k:
		return flaw{at: kindAt, cause: errOther}
	case num >= 0 && u.Num != num:
		return flaw{at: numAt, cause: errOther}
	}
	return nil
}
