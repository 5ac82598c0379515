package mark

import (
	"errors"
	"strconv"

	"limpet/api"
)

var (
	errSort  = errors.New("there are no marks of this sort")
	errWrong = errors.New("the mark is not right")
	errBody  = errors.New("the body is none of a mark")
	errLost  = errors.New("no copy has a mark")
)

// told is an error that a layer below told, by its number.
type told api.Errno

func (t told) Error() string { return "a layer below told " + strconv.Itoa(int(t)) }

// fault is what could not be done with a block, and why.
type fault struct {
	block int
	cause error
}

func (f fault) Error() string {
	return "at the block " + strconv.Itoa(f.block) + ": " + f.cause.Error()
}

func (f fault) Unwrap() error { return f.cause }

// failed is the fault of a block of which a layer below told e; none of OK.
func failed(block int, e api.Errno) error {
	if e == api.OK {
		return nil
	}
	return fault{block: block, cause: told(e)}
}

// errno is the number that is told of an error.
func errno(err error) api.Errno {
	switch {
	case errors.Is(err, errSort), errors.Is(err, errWrong):
		return api.ErrArg
	case errors.Is(err, errBody):
		return api.ErrShape
	case errors.Is(err, errLost):
		return api.ErrLost
	}
	var t told
	if errors.As(err, &t) {
		return api.Errno(t)
	}
	return api.OK
}
