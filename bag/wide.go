package bag

import (
	"math"
	"math/bits"

	"seepage/api"
)

// wide is a 128-bit integer in two's complement: its upper and its lower half.
// The numbers of a bag are fewer than 2^31, so their sum fits.
type wide [2]uint64

// plus returns w + x * times, for times from 0 on.
func (w wide) plus(x int64, times int) wide {
	high, low := bits.Mul64(uint64(x), uint64(times))
	if x < 0 {
		// Read as unsigned, x is 2^64 too great.
		high -= uint64(times)
	}
	low, carry := bits.Add64(w[1], low, 0)
	high, _ = bits.Add64(w[0], high, carry)
	return wide{high, low}
}

// narrow returns the number if it fits in 64 bits.
func (w wide) narrow() (int64, api.Errno) {
	n := int64(w[1])
	// The upper half of a number that fits repeats its sign.
	if w[0] != uint64(n>>63) {
		return 0, api.ErrOver
	}
	return n, api.OK
}

// square returns the square of x.
func square(x int64) (int64, api.Errno) {
	if x < 0 {
		// As an unsigned number, the negation of -2^63 is right, too.
		x = -x
	}
	high, low := bits.Mul64(uint64(x), uint64(x))
	if high != 0 || low > math.MaxInt64 {
		return 0, api.ErrOver
	}
	return int64(low), api.OK
}
