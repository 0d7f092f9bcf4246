package codec

const (
	// perGroup is how many bits of a number a byte contains.
	perGroup = 7
	// more is set in each byte of a number that is followed by another one.
	more = 1 << perGroup
	// mostGroups is how many bytes a number can have.
	mostGroups = 10
)

// appendUint appends an unsigned number to bytes of this package.
func appendUint(b []byte, x uint64) []byte {
	for ; x >= more; x >>= perGroup {
		b = append(b, byte(x)|more)
	}
	return append(b, byte(x))
}

// folded returns the unsigned number as which a signed one is written.
func folded(x int64) uint64 {
	if x < 0 {
		// This is -2x - 1, without an overflow.
		return ^uint64(x)<<1 + 1
	}
	return uint64(x) << 1
}

// unfolded returns the signed number that is written as an unsigned one.
func unfolded(x uint64) int64 {
	if x%2 == 1 {
		return ^int64(x >> 1)
	}
	return int64(x >> 1)
}
