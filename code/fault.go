package code

import (
	"errors"
	"strconv"

	"limpet/api"
)

var (
	errWidth = errors.New("there is no field of this width")
	errFew   = errors.New("there are too few bytes")
	errGreat = errors.New("the number is above the greatest one")
	errMuch  = errors.New("there is more than was asked for")
	errEntry = errors.New("the entry is not right")
)

// fault is why something could not be got, and the place that is to be told of it.
type fault struct {
	at    int
	cause error
}

func (f fault) Error() string {
	return "at the byte " + strconv.Itoa(f.at) + ": " + f.cause.Error()
}

func (f fault) Unwrap() error { return f.cause }

func (f fault) errno() api.Errno {
	if errors.Is(f, errMuch) {
		return api.ErrLong
	}
	return api.ErrShape
}
