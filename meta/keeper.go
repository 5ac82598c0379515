package meta

import (
	"bytes"
	"cmp"
	"slices"

	"limpet/api"
	"limpet/dev"
	"limpet/unit"
)

// The slots, by the numbers of their blocks.
const (
	frontSlot = 0
	backSlot  = 1
)

// slot is what is seen of one: its meta, or why it has none.
type slot struct {
	number int
	block  []byte
	meta   api.Meta
	lack   error
}

// keeper keeps a meta in the slots of a disk.
type keeper struct{ *dev.Disk }

// get is the newer one of the slots' metas.
func (k keeper) get() (api.Meta, error) {
	l, err := k.look(frontSlot, backSlot)
	if err != nil {
		return api.Meta{}, err
	}
	return newest(l...)
}

// open is the newer one, and each slot has it then.
func (k keeper) open() (api.Meta, error) {
	l, err := k.look(frontSlot, backSlot)
	if err != nil {
		return api.Meta{}, err
	}
	m, err := newest(l...)
	if err != nil {
		return api.Meta{}, err
	}
	if !alike(l...) {
		err = k.put(m)
	}
	if err != nil {
		return api.Meta{}, err
	}
	return m, nil
}

// put lays a meta.
func (k keeper) put(m api.Meta) error {
	if !Right(m) {
		return errWrong
	}
	b, _ := unit.Seal(Unit(m)) // which is right, as the meta is
	return k.lay(b)
}

// damaged are the numbers of the slots that have no meta.
func (k keeper) damaged() []int {
	l, _ := k.look(frontSlot, backSlot) // none are seen of a disk that can't be read
	var out []int
	for _, s := range l {
		if s.lack != nil {
			out = append(out, s.number)
		}
	}
	return out
}

// lay stores a block in one slot after the other: while the one is written, the other one is as it was, or done.
func (k keeper) lay(b []byte) error {
	n := frontSlot
	e := k.store(n, b)
	switch e {
	case api.OK:
		n = backSlot
		e = k.store(n, b)
		fallthrough
	default: // what was told of the last slot that was tried
		return failed(n, e)
	}
}

// store has a block stored in a slot.
func (k keeper) store(n int, b []byte) api.Errno {
	if e := k.Write(n, b); e != api.OK {
		return e
	}
	return k.Sync()
}

// look is what is seen of the slots of these numbers.
func (k keeper) look(numbers ...int) ([]slot, error) {
	l := make([]slot, len(numbers))
	for i, n := range numbers {
		b, e := k.Read(n)
		if err := failed(n, e); err != nil {
			return nil, err
		}
		m, lack := of(b)
		l[i] = slot{number: n, block: b, meta: m, lack: lack}
	}
	return l, nil
}

// newest is the meta of the greatest Version that slots have; of one Version the first one.
func newest(l ...slot) (api.Meta, error) {
	whole := slices.DeleteFunc(slices.Clone(l), func(s slot) bool { return s.lack != nil })
	if len(whole) == 0 {
		return api.Meta{}, errLost
	}
	best := slices.MaxFunc(whole, func(a, b slot) int { return cmp.Compare(a.meta.Version, b.meta.Version) })
	return best.meta, nil
}

// alike says whether all slots have the same block.
func alike(l ...slot) bool {
	for _, s := range l {
		if !bytes.Equal(s.block, l[0].block) {
			return false
		}
	}
	return true
}
