package checked_test

import (
	"math"
	"math/big"
	"math/rand/v2"
	"testing"

	"seepage/api"
)

const (
	least = math.MinInt64
	most  = math.MaxInt64
)

// corners are the numbers at which something may change: around 0, the ends of
// the range, powers of 2, and the square roots of the ends.
func corners() []int64 {
	l := []int64{0, 1, 2, 3, 5, 6, 7, 10, 3037000499, 3037000500, 4294967295, 4294967297, most / 3, most - 2, most - 1, most}
	for _, k := range []int{31, 32, 33, 61, 62} {
		p := int64(1) << k
		l = append(l, p-1, p, p+1)
	}
	for _, n := range l {
		if n != 0 {
			l = append(l, -n)
		}
	}
	return append(l, least)
}

// sample returns numbers of all lengths, the same ones in each run.
func sample(seed uint64, n int) []int64 {
	r := rand.New(rand.NewPCG(seed, 1))
	l := make([]int64, n)
	for i := range l {
		l[i] = int64(r.Uint64()) >> r.IntN(64)
	}
	return l
}

// pairs calls f for all pairs of corners, for small numbers, and for a sample.
func pairs(f func(a, b int64)) {
	for _, a := range corners() {
		for _, b := range corners() {
			f(a, b)
		}
	}
	for a := int64(-12); a <= 12; a++ {
		for b := int64(-12); b <= 12; b++ {
			f(a, b)
		}
	}
	l := sample(1, 40000)
	for i := 0; i+1 < len(l); i += 2 {
		f(l[i], l[i+1])
	}
}

// triples calls f for all triples of corners, for small numbers, and for a sample.
func triples(f func(a, b, c int64)) {
	l := corners()
	for _, a := range l {
		for _, b := range l {
			for _, c := range l {
				f(a, b, c)
			}
		}
	}
	for a := int64(-6); a <= 6; a++ {
		for b := int64(-6); b <= 6; b++ {
			for c := int64(-6); c <= 6; c++ {
				f(a, b, c)
			}
		}
	}
	r := sample(2, 90000)
	for i := 0; i+2 < len(r); i += 3 {
		f(r[i], r[i+1], r[i+2])
	}
}

// fit is the expected result for an exact number.
func fit(n *big.Int) (int64, api.Errno) {
	if !n.IsInt64() {
		return 0, api.ErrOver
	}
	return n.Int64(), api.OK
}

func exact(n int64) *big.Int { return big.NewInt(n) }

// check compares a number and an error with the expected ones.
func check(t *testing.T, got int64, e api.Errno, want int64, we api.Errno, name string, args ...int64) {
	t.Helper()
	if got != want || e != we {
		t.Fatalf("%s(%d) = %d, error %d; expected %d, error %d", name, args, got, e, want, we)
	}
}

// fractions are valid fractions in all kinds of forms: with equal values, with
// the greatest numbers, and with values that floats do not tell apart.
func fractions() []api.Frac {
	l := []api.Frac{
		{N: 1, D: 2}, {N: 2, D: 4}, {N: most - 1, D: most}, {N: most, D: most}, {N: most, D: most - 1},
		{N: most - 1, D: most - 2}, {N: most - 2, D: most - 1}, {N: 1 << 62, D: most}, {N: least, D: most},
		{N: least, D: 1 << 62}, {N: -2, D: 1}, {N: least, D: 2}, {N: -1 << 62, D: 1}, {N: 1 << 62, D: 1 << 62},
		{N: 6917529027641081856, D: 3}, {N: 4611686018427387904, D: 2}, {N: -3, D: 9}, {N: -1, D: 3},
	}
	for _, n := range []int64{least, least + 1, -7, -1, 0, 1, 7, most - 1, most} {
		for _, d := range []int64{1, 2, 7, most - 1, most} {
			l = append(l, api.Frac{N: n, D: d})
		}
	}
	r := sample(3, 40)
	for i := 0; i+1 < len(r); i += 2 {
		d := r[i+1] & most
		if d > 0 {
			l = append(l, api.Frac{N: r[i], D: d})
		}
	}
	return l
}
