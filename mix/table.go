package mix

// wordBytes is how many bytes are taken at once.
const wordBytes = 4

// table has for each four bits of a word (a row), and each value of them, what 32 shifts make of it.
type table [8][16]uint32

// newTable goes from the highest bit down: what 32 shifts make of a bit is one shift more than of the bit above it.
func newTable() table {
	var t table
	shifted := divisor
	for bit := 31; bit >= 0; bit-- {
		weight := 1 << (bit % 4)
		for n := 0; n < 16; n += 2 * weight {
			t[bit/4][n+weight] = t[bit/4][n] ^ shifted
		}
		shifted = shift(shifted)
	}
	return t
}

// addPart is the sum with a part's bytes behind (not yet turned).
func (t *table) addPart(sum uint32, part []byte) uint32 {
	for len(part) >= wordBytes {
		sum = t.addWord(sum, part)
		part = part[wordBytes:]
	}
	left := len(part)
	switch left {
	case 3:
		sum = t.addByte(sum, part[left-3])
		fallthrough
	case 2:
		sum = t.addByte(sum, part[left-2])
		fallthrough
	case 1:
		sum = t.addByte(sum, part[left-1])
	}
	return sum
}

// addWord takes the four bytes in front of part.
func (t *table) addWord(sum uint32, part []byte) uint32 {
	sum ^= uint32(part[0]) | uint32(part[1])<<8 | uint32(part[2])<<16 | uint32(part[3])<<24
	return t[0][sum&15] ^ t[1][sum>>4&15] ^ t[2][sum>>8&15] ^ t[3][sum>>12&15] ^
		t[4][sum>>16&15] ^ t[5][sum>>20&15] ^ t[6][sum>>24&15] ^ t[7][sum>>28]
}

// addByte takes one byte: 8 shifts send the lowest 8 bits through what 32 shifts send the highest ones through.
func (t *table) addByte(sum uint32, b byte) uint32 {
	low := sum&0xFF ^ uint32(b)
	return sum>>8 ^ t[6][low&15] ^ t[7][low>>4]
}
