package disk

import "bureau/api"

const (
	wordSize = 4
	copies   = 3 // two that must be the same, and one for when they are not
)

// Seal makes the sealed sector of four numbers.
func Seal(w api.Words) api.Sector {
	var s api.Sector
	for i := range copies * len(w) {
		layWord(s[i*wordSize:], w[i%len(w)])
	}
	return s
}

// Open tells what a sealed sector says; a torn one says what the old one or the new one said.
func Open(s api.Sector) api.Words {
	if first := sealedCopy(s, 0); first == sealedCopy(s, 1) {
		return first
	}
	return sealedCopy(s, 2)
}

// sealedCopy reads one of the copies.
func sealedCopy(s api.Sector, which int) api.Words {
	var w api.Words
	for i := range w {
		w[i] = readWord(s[(which*len(w)+i)*wordSize:])
	}
	return w
}

// layWord puts a number into the first bytes of b, the greatest byte first.
func layWord(b []byte, n uint32) {
	for i := range wordSize {
		b[wordSize-1-i] = byte(n)
		n >>= 8
	}
}

// readWord reads a number that layWord put there.
func readWord(b []byte) uint32 {
	n := uint32(0)
	for i := range wordSize {
		n <<= 8
		n |= uint32(b[i])
	}
	return n
}
