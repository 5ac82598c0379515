package code

// place is bytes, and where in them a reader is.
type place struct {
	all []byte
	at  int
}

// left is how many bytes stand behind the place.
func (p *place) left() int { return len(p.all) - p.at }

// next is the bytes there: many of them, which must be left.
func (p *place) next(many int) []byte { return p.all[p.at:][:many] }

func (p *place) pass(many int) { p.at += many }
