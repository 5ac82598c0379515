package plan

// part is a number that something must have, the least one it may be, and the greatest one.
type part [3]int

// within says whether all parts are what they may be.
func within(parts ...part) bool {
	for _, p := range parts {
		number, least, most := p[0], p[1], p[2]
		if number < least || number > most {
			return false
		}
	}
	return true
}
