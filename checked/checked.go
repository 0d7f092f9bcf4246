// Package checked is layer 1: exact arithmetic on 64-bit integers. See shared/doc/01-checked.md.
package checked

import (
	"math"

	"seepage/api"
)

// Add returns a + b.
func Add(a, b int64) (int64, api.Errno) {
	c := a + b
	// The sum has wrapped around exactly if it lies on the wrong side of a.
	if (b >= 0) != (c >= a) {
		return 0, api.ErrOver
	}
	return c, api.OK
}

// Sub returns a - b.
func Sub(a, b int64) (int64, api.Errno) {
	c := a - b
	if (b >= 0) != (c <= a) {
		return 0, api.ErrOver
	}
	return c, api.OK
}

// Mul returns a * b.
func Mul(a, b int64) (int64, api.Errno) {
	return product(a, b).narrow()
}

// Sum returns the exact sum of all numbers, whatever the sums of some of them are.
func Sum(l ...int64) (int64, api.Errno) {
	var total wide
	for _, n := range l {
		total = total.plus(n)
	}
	return total.narrow()
}

// MulDiv returns a * b / c, rounded down, for a c above 0.
func MulDiv(a, b, c int64) (int64, api.Errno) {
	if c < 1 {
		return 0, api.ErrArg
	}
	return product(a, b).quotient(c)
}

// Reduce returns the fraction n / d in lowest terms.
func Reduce(n, d int64) (api.Frac, api.Errno) {
	if d == 0 {
		return api.Frac{}, api.ErrArg
	}
	// The common divisor is taken of the absolute values, as unsigned numbers:
	// that of -2^63 does not fit in an int64.
	top, bottom := absolute(n), absolute(d)
	g := divisor(top, bottom)
	num, e := signed((n < 0) != (d < 0), top/g)
	if e != api.OK {
		return api.Frac{}, e
	}
	if bottom/g > math.MaxInt64 {
		return api.Frac{}, api.ErrOver
	}
	return api.Frac{N: num, D: int64(bottom / g)}, api.OK
}

// Compare compares two fractions: -1, 0 or 1.
func Compare(a, b api.Frac) (int, api.Errno) {
	if a.D < 1 || b.D < 1 {
		return 0, api.ErrArg
	}
	return product(a.N, b.D).compare(product(b.N, a.D)), api.OK
}

// absolute returns the absolute value of n.
func absolute(n int64) uint64 {
	if n < 0 {
		return -uint64(n)
	}
	return uint64(n)
}

// signed returns m, or -m if negative is set.
func signed(negative bool, m uint64) (int64, api.Errno) {
	if negative && m <= 1<<63 {
		return int64(-m), api.OK
	}
	if m <= math.MaxInt64 {
		return int64(m), api.OK
	}
	return 0, api.ErrOver
}

// divisor returns the greatest common divisor of a and b, one of which is not 0.
func divisor(a, b uint64) uint64 {
	for b != 0 {
		a, b = b, a%b
	}
	return a
}
