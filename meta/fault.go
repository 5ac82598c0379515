package meta

import (
	"errors"
	"strconv"

	"limpet/api"
)

var (
	errWrong = errors.New("the meta is not right")
	errBody  = errors.New("the body is none of a meta")
	errLost  = errors.New("no slot has a meta")
)

// told is an error that a layer below told, by its number.
type told api.Errno

func (t told) Error() string { return "a layer below told " + strconv.Itoa(int(t)) }

// fault is what could not be done with a slot, and why.
type fault struct {
	slot  int
	cause error
}

func (f fault) Error() string {
	return "at the slot " + strconv.Itoa(f.slot) + ": " + f.cause.Error()
}

func (f fault) Unwrap() error { return f.cause }

// failed is the fault of a slot of which a layer below told e; none of OK.
func failed(slot int, e api.Errno) error {
	if e == api.OK {
		return nil
	}
	return fault{slot: slot, cause: told(e)}
}

// errno is the number that is told of an error.
func errno(err error) api.Errno {
	switch {
	case errors.Is(err, errWrong):
		return api.ErrArg
	case errors.Is(err, errBody):
		return api.ErrShape
	case errors.Is(err, errLost):
		return api.ErrLost
	}
	var t told
	if errors.As(err, &t) {
		return api.Errno(t)
	}
	return api.OK
}
