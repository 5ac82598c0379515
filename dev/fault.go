package dev

import (
	"errors"
	"strconv"

	"limpet/api"
)

var (
	errNil   = errors.New("there is no disk")
	errDown  = errors.New("the disk is down")
	errBlock = errors.New("there is no such block")
	errLong  = errors.New("a block has not so many bytes")
	errSame  = errors.New("nothing would be turned")
	errHurt  = errors.New("the block is hurt already")
)

// refusal is a turn that was not done, and why.
type refusal struct {
	turn  int // which one it would have been, counted from 1
	cause error
}

func (r refusal) Error() string {
	return "the turn " + strconv.Itoa(r.turn) + " is not done: " + r.cause.Error()
}

func (r refusal) Unwrap() error { return r.cause }

// errno is the number that is told of an error.
func errno(err error) api.Errno {
	switch {
	case err == nil:
		return api.OK
	case errors.Is(err, errNil):
		return api.ErrNil
	case errors.Is(err, errDown):
		return api.ErrDown
	case errors.Is(err, errHurt):
		return api.ErrKnown
	}
	return api.ErrArg // what else there is are arguments that may not be
}
