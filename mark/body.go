package mark

import (
	"limpet/api"
	"limpet/code"
	"limpet/unit"
)

// Widths of the fields of a body.
const (
	numWidth  = 6
	kindWidth = 1
)

// anyNum is asked for where a unit's Num is what is to be known.
const anyNum = -1

// sealed is the block of a mark that is right. It is small: all of it lies in one sector, which is never torn.
func sealed(k api.UnitKind, m api.Mark) []byte {
	var w code.Writer
	w.Field(numWidth, m.Last.Index, m.Last.Term)
	w.Field(kindWidth, int(m.Last.Kind))
	w.Field(numWidth, m.Void)
	body, _ := w.Bytes()
	b, _ := unit.Seal(api.Unit{Kind: k, Num: m.Version, Body: body})
	return b
}

// of is the mark, of a sort, whose unit's block b is.
func of(k api.UnitKind, b []byte) (api.Mark, error) {
	body, e := unit.As(b, k, anyNum)
	if e != api.OK {
		return api.Mark{}, told(e)
	}
	u, _ := unit.Open(b) // which As has opened, but of which it tells no Num
	return parted(u.Num, body)
}

// parted is the mark of a Version and a body.
func parted(version int, body []byte) (api.Mark, error) {
	r := code.Read(body)
	m := api.Mark{Version: version}
	m.Last.Index, m.Last.Term = r.Field(numWidth), r.Field(numWidth)
	m.Last.Kind = api.EntryKind(r.Field(kindWidth))
	m.Void = r.Field(numWidth)
	if _, e := r.Err(); e != api.OK || r.Left() > 0 || !Right(m) {
		return api.Mark{}, errBody
	}
	return m, nil
}
