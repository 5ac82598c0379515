package seg

import (
	"limpet/api"
	"limpet/code"
	"limpet/mark"
)

// record is an entry, and the ident ahead of it.
type record struct {
	api.Entry
	ahead api.Ident
}

// isAhead says whether an ident is one ahead of an index.
func isAhead(i api.Ident, index int) bool { return i.Index == index-1 && mark.Known(i) }

// ident is the entry's.
func (r record) ident() api.Ident {
	return api.Ident{Index: r.Index, Term: r.Term, Kind: r.Kind}
}

// lack is how there can be no such record, if so.
func (r record) lack() error {
	if !code.Right(r.Entry) {
		return errEntry
	}
	if !isAhead(r.ahead, r.Index) {
		return errOrder
	}
	return nil
}

// unit is the record's.
func (r record) unit() api.Unit {
	must(r.Index, r.lack())
	var w writer
	w.idents(r.ahead, r.ident())
	u := w.unit(api.UnitRecord, r.Index)
	u.Body = append(u.Body, r.Body...)
	return u
}

// recordOf is the one of an index whose block b is.
func recordOf(b []byte, index int) record {
	if index < 0 {
		must(index, errIndex) // such a Num would be asked for as any one
	}
	got := opened(b, api.UnitRecord, index)
	r := record{ahead: got.ident(index - 1)}
	i := got.ident(index)
	r.Entry = api.Entry{Index: i.Index, Term: i.Term, Kind: i.Kind, Body: got.rest()}
	if r.lack() != nil { // also if the body ends within its fields: what can't be got is 0, and no Kind
		must(index, errBody)
	}
	return r
}
