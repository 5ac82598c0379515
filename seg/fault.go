package seg

import (
	"errors"
	"strconv"

	"limpet/api"
)

var (
	errEntry   = errors.New("the entry is not right")
	errSegment = errors.New("there is no segment of this number")
	errMany    = errors.New("a segment has another number of records")
	errOrder   = errors.New("what is ahead is not the ident ahead")
	errIndex   = errors.New("there is no index below 0")
	errBody    = errors.New("the body is none of such a unit")
	errFoot    = errors.New("the foot is that of other records")
)

// told is an error that a layer below told, by its number.
type told api.Errno

func (t told) Error() string { return "a layer below told " + strconv.Itoa(int(t)) }

// fault is of which number a unit can't be made or taken, and why.
type fault struct {
	num   int
	cause error
}

func (f fault) Error() string {
	return "of the number " + strconv.Itoa(f.num) + ": " + f.cause.Error()
}

func (f fault) Unwrap() error { return f.cause }

// must panics with the fault of a unit's number, if there is an error.
func must(num int, err error) {
	if err != nil {
		panic(fault{num: num, cause: err})
	}
}

// tried does something, and is the number of the fault that it panics with, if it does so.
func tried(do func()) (e api.Errno) {
	defer func() {
		switch r := recover().(type) {
		case nil:
		case fault:
			e = errno(r)
		default:
			panic(r) // it is none of those that are told
		}
	}()
	do()
	return api.OK
}

// errno is the number that is told of an error.
func errno(err error) api.Errno {
	var t told
	if errors.As(err, &t) {
		return api.Errno(t)
	}
	switch {
	case errors.Is(err, errOrder):
		return api.ErrOrder
	case errors.Is(err, errIndex), errors.Is(err, errBody):
		return api.ErrShape
	case errors.Is(err, errFoot):
		return api.ErrSum
	}
	return api.ErrArg // what else there is are arguments that may not be
}
