package calc

import (
	"math"
	"math/bits"
)

// sum is x + y, and whether it is an int64: it is behind x just if y is above 0, unless it went round.
func sum(x, y int64) (int64, bool) {
	n := x + y
	return n, (n > x) == (y > 0)
}

// difference is x - y, and whether it is an int64, told as of a sum.
func difference(x, y int64) (int64, bool) {
	n := x - y
	return n, (n < x) == (y > 0)
}

// product is x * y, and whether it is an int64: below 0 there is one number more than above.
func product(x, y int64) (int64, bool) {
	most := uint64(math.MaxInt64)
	if (x < 0) != (y < 0) {
		most++
	}
	high, low := bits.Mul64(size(x), size(y))
	return x * y, high == 0 && low <= most
}

// quotient is x / y rounded towards 0, and whether there is such an int64.
func quotient(x, y int64) (int64, bool) {
	if y == 0 || x == math.MinInt64 && y == -1 {
		return 0, false
	}
	return x / y, true
}

// remainder is what quotient leaves, and whether one may divide.
func remainder(x, y int64) (int64, bool) {
	if y == 0 {
		return 0, false
	}
	return x % y, true // also of the least int64 by -1, where the language says 0
}

// size is a number without its sign; that of the least int64 is no int64 any more.
func size(x int64) uint64 {
	if x < 0 {
		return -uint64(x)
	}
	return uint64(x)
}
