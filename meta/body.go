package meta

import (
	"limpet/api"
	"limpet/code"
	"limpet/unit"
)

// Widths of the fields of a body.
const (
	termWidth = 6
	voteWidth = 1
)

// anyNum is asked for where a unit's Num is what is to be known.
const anyNum = -1

// within says whether all numbers are from 0 to most.
func within(most int, numbers ...int) bool {
	for _, n := range numbers {
		if n < 0 || n > most {
			return false
		}
	}
	return true
}

// body is what a meta's unit has beside its Num.
func body(m api.Meta) []byte {
	var w code.Writer
	w.Field(termWidth, m.Term)
	w.Field(voteWidth, m.Vote)
	b, _ := w.Bytes()
	return b
}

// of is the meta whose unit's block b is.
func of(b []byte) (api.Meta, error) {
	text, e := unit.As(b, api.UnitMeta, anyNum)
	if e != api.OK {
		return api.Meta{}, told(e)
	}
	u, _ := unit.Open(b) // which As has opened, but of which it tells no Num
	return parted(u.Num, text)
}

// parted is the meta of a Version and a body.
func parted(version int, text []byte) (api.Meta, error) {
	r := code.Read(text)
	term := r.Field(termWidth)
	vote := r.Field(voteWidth)
	m := api.Meta{Version: version, Term: term, Vote: vote}
	if _, e := r.Err(); e != api.OK || r.Left() > 0 || !Right(m) {
		return api.Meta{}, errBody
	}
	return m, nil
}
