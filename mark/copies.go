package mark

import (
	"bytes"

	"limpet/api"
	"limpet/dev"
)

// place is where the two copies of a sort lie, by the numbers of their blocks.
type place struct{ first, second int }

// places are those of the sorts.
func places() map[api.UnitKind]place {
	return map[api.UnitKind]place{
		api.UnitBound: {first: 2, second: 3},
		api.UnitNamed: {first: 4, second: 5},
	}
}

// placed is where the copies of a sort lie.
func placed(k api.UnitKind) (place, error) {
	p, ok := places()[k]
	if !ok {
		return place{}, errSort
	}
	return p, nil
}

// twin is what is seen of a copy: its mark, or why it has none.
type twin struct {
	number int
	block  []byte
	mark   api.Mark
	lack   error
}

// get is the newer one of the marks that a sort's copies have.
func get(d *dev.Disk, k api.UnitKind) (api.Mark, error) {
	l, err := look(d, k)
	if err != nil {
		return api.Mark{}, err
	}
	return newer(l...)
}

// open is the newer one, and each copy has it then.
func open(d *dev.Disk, k api.UnitKind) (api.Mark, error) {
	l, err := look(d, k)
	if err != nil {
		return api.Mark{}, err
	}
	m, err := newer(l...)
	if err != nil || alike(l...) {
		return m, err
	}
	if err := lay(d, k, m); err != nil {
		return api.Mark{}, err
	}
	return m, nil
}

// layFrom lays a mark as one of a sort, and of those behind it.
func layFrom(d *dev.Disk, k api.UnitKind, m api.Mark) error {
	switch k {
	case api.UnitBound:
		if err := lay(d, api.UnitBound, m); err != nil {
			return err
		}
		fallthrough
	case api.UnitNamed:
		return lay(d, api.UnitNamed, m)
	}
	return errSort
}

// lay lays a mark that is right.
func lay(d *dev.Disk, k api.UnitKind, m api.Mark) error {
	p, err := placed(k)
	if err != nil {
		return err
	}
	return store(d, sealed(k, m), p.first, p.second)
}

// store has b stored in one block ahead of the next one's turn: so no crash meets two of them half done.
func store(d *dev.Disk, b []byte, numbers ...int) error {
	for _, n := range numbers {
		if err := failed(n, d.Write(n, b)); err != nil {
			return err
		}
		if err := failed(n, d.Sync()); err != nil {
			return err
		}
	}
	return nil
}

// damaged are the numbers of the blocks of these sorts that have no mark; none, if one of them can't be read.
func damaged(d *dev.Disk, sorts ...api.UnitKind) []int {
	var out []int
	for _, k := range sorts {
		l, err := look(d, k)
		if err != nil {
			return nil
		}
		for _, c := range l {
			if c.lack != nil {
				out = append(out, c.number)
			}
		}
	}
	return out
}

// look is what is seen of a sort's copies.
func look(d *dev.Disk, k api.UnitKind) ([]twin, error) {
	p, err := placed(k)
	if err != nil {
		return nil, err
	}
	return seen(d, k, p.first, p.second)
}

// seen is what is seen of the copies in these blocks.
func seen(d *dev.Disk, k api.UnitKind, numbers ...int) ([]twin, error) {
	var l []twin
	for _, n := range numbers {
		b, e := d.Read(n)
		if err := failed(n, e); err != nil {
			return nil, err
		}
		m, lack := of(k, b)
		l = append(l, twin{number: n, block: b, mark: m, lack: lack})
	}
	return l, nil
}

// newer is the mark of the greatest Version that copies have; of one Version the first one.
func newer(l ...twin) (api.Mark, error) {
	best, lack := api.Mark{}, errLost
	for _, c := range l {
		if c.lack == nil && (lack != nil || c.mark.Version > best.Version) {
			best, lack = c.mark, nil
		}
	}
	return best, lack
}

// alike says whether all copies have the same block.
func alike(l ...twin) bool {
	for _, c := range l {
		if !bytes.Equal(c.block, l[0].block) {
			return false
		}
	}
	return true
}
