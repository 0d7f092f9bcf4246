package splay

import (
	"math"

	"seepage/api"
)

// sum is the sum high * 2^32 + low of at most MaxSlots values. As each value
// adds at most 2^32 to each half, both fit in 64 bits.
type sum struct{ high, low int64 }

func sumOf(v int64) sum {
	return sum{high: v >> 32, low: v & math.MaxUint32}
}

func (s sum) plus(t sum) sum {
	return sum{high: s.high + t.high, low: s.low + t.low}
}

// narrow returns the sum if it fits in 64 bits.
func (s sum) narrow() (int64, api.Errno) {
	high := s.high + s.low>>32
	if high < math.MinInt32 || high > math.MaxInt32 {
		return 0, api.ErrOver
	}
	return high<<32 | s.low&math.MaxUint32, api.OK
}
