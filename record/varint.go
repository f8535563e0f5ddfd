package record

import (
	"math/bits"

	"bureau/api"
)

const (
	maxVarint = 9    // bytes of the longest varint
	more      = 0x80 // the bit that says that another byte comes
	low       = 0x7f // the bits that are the number's
	lowBits   = 7
)

// PutVarint lays a number into the bytes of its varint.
func PutVarint(u uint64) string {
	b := make([]byte, varintSize(u))
	last := len(b) - 1
	b[last] = byte(u)
	if len(b) == maxVarint {
		u >>= 8
	} else {
		b[last] &= low
		u >>= lowBits
	}
	for i := last - 1; i >= 0; i-- {
		b[i] = byte(u) | more
		u >>= lowBits
	}
	return string(b)
}

// Varint reads the varint with which a text begins: its number, and how many bytes it has.
func Varint(s string) (u uint64, n int, e api.Errno) {
	u, n = begun(s)
	if n != varintSize(u) {
		return 0, 0, api.ErrBad
	}
	return u, n, api.OK
}

// begun is the number with which a text begins, in whatever form, and its bytes: none, if the text ends in the midst.
func begun(s string) (u uint64, n int) {
	for n < len(s) {
		b := s[n]
		n++
		if n == maxVarint {
			return u<<8 | uint64(b), n
		}
		u <<= lowBits
		u |= uint64(b & low)
		if b&more == 0 {
			return u, n
		}
	}
	return 0, 0
}

// varintSize is how many bytes the shortest form has. What does not fit in eight bytes takes nine, as the ninth gives a bit more.
func varintSize(u uint64) int {
	return min(max((bits.Len64(u)+lowBits-1)/lowBits, 1), maxVarint)
}
