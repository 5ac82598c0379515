package seg

import (
	"limpet/api"
	"limpet/code"
	"limpet/unit"
)

// Widths of the fields of a body.
const (
	numWidth  = 6
	kindWidth = 1
	sumWidth  = 4
)

// sumAt is where a block has its sum, which is as wide as the one in a foot.
const sumAt = 28

// writer lays a body.
type writer struct{ code.Writer }

// idents puts of each the Term and the Kind.
func (w *writer) idents(l ...api.Ident) {
	for _, i := range l {
		w.Field(numWidth, i.Term)
		w.Field(kindWidth, int(i.Kind))
	}
}

// unit is what has that body.
func (w *writer) unit(k api.UnitKind, num int) api.Unit {
	body, _ := w.Bytes()
	return api.Unit{Kind: k, Num: num, Body: body}
}

// reader gets what stands in the body of a unit.
type reader struct {
	*code.Reader
	body []byte
}

// opened reads the body of the unit, of a kind and a number, whose block b is.
func opened(b []byte, k api.UnitKind, num int) reader {
	body, e := unit.As(b, k, num)
	if e != api.OK {
		must(num, told(e))
	}
	return reader{Reader: code.Read(body), body: body}
}

// ident is that of an index, whose Term and Kind stand there.
func (r reader) ident(index int) api.Ident {
	return api.Ident{Index: index, Term: r.Field(numWidth), Kind: api.EntryKind(r.Field(kindWidth))}
}

// rest is what stands behind all that was got.
func (r reader) rest() []byte { return r.body[len(r.body)-r.Left():] }

// ended says whether all could be got that was asked for, and nothing stands behind it.
func (r reader) ended() bool {
	_, e := r.Err()
	return e == api.OK && r.Left() == 0
}
