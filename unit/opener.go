package unit

import (
	"slices"

	"limpet/api"
	"limpet/code"
)

// opener is a reader of a block's fields who has the block at hand: what must stand elsewhere in it hangs on what they tell.
type opener struct {
	*code.Reader
	block []byte
}

// newOpener reads the sum first, and then what stands ahead of the body: of a Num that is none a reader has an error for good, but the sum is asked ahead of it.
func newOpener(b []byte) opener {
	return opener{Reader: code.Read(slices.Concat(b[sumAt:gapAt], b[:frontAt])), block: b}
}

// open is the unit whose block b is.
func open(b []byte) (api.Unit, error) {
	if err := shapeless(b); err != nil {
		return api.Unit{}, err
	}
	o := newOpener(b)
	if err := o.unsealed(); err != nil {
		return api.Unit{}, err
	}
	return o.unit()
}

// shapeless is why b is no block of a unit at first sight, if so.
func shapeless(b []byte) error {
	if len(b) != api.Block {
		return flaw{at: min(len(b), api.Block), cause: errBytes}
	}
	if k := api.UnitKind(b[kindAt]); k < firstKind || k > lastKind {
		return flaw{at: kindAt, cause: errKind}
	}
	return nil
}

// unsealed is how the sum does not fit, if so.
func (o opener) unsealed() error {
	if o.Field(sumWidth) != int(sumOf(o.block)) {
		return flaw{at: sumAt, cause: errSum}
	}
	return nil
}

// unit is what the block has, whose sum fits.
func (o opener) unit() (api.Unit, error) {
	head := o.fields(kindWidth, numWidth, manyWidth)
	if at, e := o.Err(); e != api.OK {
		return api.Unit{}, flaw{at: at - sumWidth, cause: errNum}
	}
	kind, num, many := api.UnitKind(head[0]), head[1], head[2]
	if err := o.lack(many); err != nil {
		return api.Unit{}, err
	}
	return api.Unit{Kind: kind, Num: num, Body: o.body(many)}, nil
}

// fields gets one of each width.
func (o opener) fields(widths ...int) []int {
	l := make([]int, len(widths))
	for i, width := range widths {
		l[i] = o.Field(width)
	}
	return l
}

// lack is what the block has not that one with a body of so many bytes must have, if so.
func (o opener) lack(many int) error {
	front, back := parted(many)
	end := endMark
	switch {
	case many > api.MaxBody:
		return flaw{at: manyAt, cause: errBody}
	case back == 0: // of a small one more is asked: its body may end within the front, and it has no end mark
		if err := o.bare(frontAt+front, sumAt); err != nil {
			return err
		}
		end = 0
		fallthrough
	default:
		if err := o.bare(gapAt, backAt); err != nil {
			return err
		}
		if err := o.bare(backAt+back, endAt); err != nil {
			return err
		}
		if o.block[endAt] != end {
			return flaw{at: endAt, cause: errEnd}
		}
	}
	return nil
}

// bare is what stands from one place up to ahead of another one, where noughts must be, if something does.
func (o opener) bare(from, to int) error {
	for i, c := range o.block[from:to] {
		if c != 0 {
			return flaw{at: from + i, cause: errNought}
		}
	}
	return nil
}

// body is the one of so many bytes.
func (o opener) body(many int) []byte {
	front, back := parted(many)
	return slices.Concat(o.block[frontAt:][:front], o.block[backAt:][:back])
}
