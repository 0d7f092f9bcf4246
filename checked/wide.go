package checked

import (
	"cmp"
	"math"
	"math/bits"

	"seepage/api"
)

// wide is a signed number of 128 bits in two's complement: its high half, then its low half.
// Each product of two int64 fits, and so does each sum of fewer than 2^64 of them.
type wide [2]uint64

// product returns a * b.
func product(a, b int64) wide {
	hi, lo := bits.Mul64(uint64(a), uint64(b))
	// A negative factor was read as 2^64 more than it is, which has added
	// 2^64 times the other factor.
	if a < 0 {
		hi -= uint64(b)
	}
	if b < 0 {
		hi -= uint64(a)
	}
	return wide{hi, lo}
}

// plus returns w + n.
func (w wide) plus(n int64) wide {
	lo, carry := bits.Add64(w[1], uint64(n), 0)
	hi, _ := bits.Add64(w[0], uint64(n>>63), carry)
	return wide{hi, lo}
}

// narrow returns w as an int64.
func (w wide) narrow() (int64, api.Errno) {
	n := int64(w[1])
	if w[0] != uint64(n>>63) {
		return 0, api.ErrOver
	}
	return n, api.OK
}

// quotient returns w / c, rounded down, for a c above 0.
func (w wide) quotient(c int64) (int64, api.Errno) {
	// The complement of w is -w - 1: dividing it instead of a negative w, and
	// complementing the quotient, rounds down, and no case needs a sign.
	negative := int64(w[0]) < 0
	if negative {
		w = wide{^w[0], ^w[1]}
	}
	// From 2^64 on, the quotient would not fit in what Div64 returns.
	if w[0] >= uint64(c) {
		return 0, api.ErrOver
	}
	q, _ := bits.Div64(w[0], w[1], uint64(c))
	if q > math.MaxInt64 {
		return 0, api.ErrOver
	}
	if negative {
		return ^int64(q), api.OK
	}
	return int64(q), api.OK
}

// compare returns -1 if w is less than v, 0 if they are equal, and 1 if w is greater.
func (w wide) compare(v wide) int {
	if w[0] != v[0] {
		return cmp.Compare(int64(w[0]), int64(v[0]))
	}
	return cmp.Compare(w[1], v[1])
}
