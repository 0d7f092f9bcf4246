package checked_test

import (
	"math/big"
	"slices"
	"testing"

	"seepage/api"
	"seepage/checked"
)

// call is a call with two numbers and the result that was worked out by hand.
type call struct {
	a, b, want int64
	e          api.Errno
}

func testCalls(t *testing.T, name string, f func(a, b int64) (int64, api.Errno), calls []call) {
	t.Helper()
	for _, c := range calls {
		got, e := f(c.a, c.b)
		check(t, got, e, c.want, c.e, name, c.a, c.b)
	}
}

// P1.1
func TestAdd(t *testing.T) {
	testCalls(t, "Add", checked.Add, []call{
		{0, 0, 0, api.OK}, {2, 3, 5, api.OK}, {-2, 3, 1, api.OK}, {2, -3, -1, api.OK}, {-2, -3, -5, api.OK},
		{most, 0, most, api.OK}, {0, most, most, api.OK}, {most - 1, 1, most, api.OK}, {most, least, -1, api.OK},
		{least, 0, least, api.OK}, {least + 1, -1, least, api.OK}, {-1 << 62, -1 << 62, least, api.OK},
		{most, 1, 0, api.ErrOver}, {1, most, 0, api.ErrOver}, {most, most, 0, api.ErrOver}, {1 << 62, 1 << 62, 0, api.ErrOver},
		{least, -1, 0, api.ErrOver}, {-1, least, 0, api.ErrOver}, {least, least, 0, api.ErrOver},
	})
	pairs(func(a, b int64) {
		got, e := checked.Add(a, b)
		want, we := fit(new(big.Int).Add(exact(a), exact(b)))
		check(t, got, e, want, we, "Add", a, b)
	})
}

// P1.1
func TestSub(t *testing.T) {
	testCalls(t, "Sub", checked.Sub, []call{
		{0, 0, 0, api.OK}, {2, 3, -1, api.OK}, {-2, 3, -5, api.OK}, {2, -3, 5, api.OK}, {-2, -3, 1, api.OK},
		{most, most, 0, api.OK}, {least, least, 0, api.OK}, {0, most, -most, api.OK}, {-1, most, least, api.OK},
		{-1, least, most, api.OK}, {least, 0, least, api.OK}, {most, 0, most, api.OK}, {most - 1, -1, most, api.OK},
		{0, least, 0, api.ErrOver}, {most, -1, 0, api.ErrOver}, {1, least, 0, api.ErrOver}, {most, least, 0, api.ErrOver},
		{least, 1, 0, api.ErrOver}, {-2, most, 0, api.ErrOver}, {least, most, 0, api.ErrOver},
	})
	pairs(func(a, b int64) {
		got, e := checked.Sub(a, b)
		want, we := fit(new(big.Int).Sub(exact(a), exact(b)))
		check(t, got, e, want, we, "Sub", a, b)
	})
}

// P1.1
func TestMul(t *testing.T) {
	testCalls(t, "Mul", checked.Mul, []call{
		{0, 0, 0, api.OK}, {4, 5, 20, api.OK}, {-4, 5, -20, api.OK}, {4, -5, -20, api.OK}, {-4, -5, 20, api.OK},
		{0, least, 0, api.OK}, {least, 0, 0, api.OK}, {least, 1, least, api.OK}, {1, least, least, api.OK},
		{most, -1, -most, api.OK}, {-1, most, -most, api.OK}, {-1 << 32, 1 << 31, least, api.OK},
		{3037000499, 3037000499, 9223372030926249001, api.OK}, {-1 << 62, 2, least, api.OK},
		{least, -1, 0, api.ErrOver}, {-1, least, 0, api.ErrOver}, {1 << 32, 1 << 31, 0, api.ErrOver},
		{-1 << 32, -1 << 31, 0, api.ErrOver}, {1 << 32, 1 << 32, 0, api.ErrOver}, {-1 << 32, 1 << 32, 0, api.ErrOver},
		{3037000500, 3037000500, 0, api.ErrOver}, {-3037000500, 3037000500, 0, api.ErrOver},
		{most, most, 0, api.ErrOver}, {least, least, 0, api.ErrOver}, {least, most, 0, api.ErrOver}, {most, 2, 0, api.ErrOver},
	})
	pairs(func(a, b int64) {
		got, e := checked.Mul(a, b)
		want, we := fit(new(big.Int).Mul(exact(a), exact(b)))
		check(t, got, e, want, we, "Mul", a, b)
	})
}

// P1.2
func TestSum(t *testing.T) {
	for _, c := range []struct {
		l    []int64
		want int64
		e    api.Errno
	}{
		{nil, 0, api.OK}, {[]int64{}, 0, api.OK}, {[]int64{0}, 0, api.OK}, {[]int64{5, -7, 9}, 7, api.OK},
		{[]int64{most}, most, api.OK}, {[]int64{least}, least, api.OK},
		{[]int64{most, 1, -1}, most, api.OK}, {[]int64{least, -1, 1}, least, api.OK},
		{[]int64{most, most, least, least}, -2, api.OK}, {[]int64{least, least, most, most, 2}, 0, api.OK},
		{[]int64{most, most, most, least, least, least}, -3, api.OK},
		{[]int64{most, 1}, 0, api.ErrOver}, {[]int64{least, -1}, 0, api.ErrOver},
		// 2^64 and -2^64 are 0 modulo 2^64, and 2^65 - 4 is -4.
		{[]int64{most, most, 2}, 0, api.ErrOver}, {[]int64{least, least}, 0, api.ErrOver},
		{[]int64{most, most, most, most}, 0, api.ErrOver}, {[]int64{least, least, least, least}, 0, api.ErrOver},
		{[]int64{-1, least, most, most, 3}, 0, api.ErrOver},
	} {
		got, e := checked.Sum(c.l...)
		check(t, got, e, c.want, c.e, "Sum", c.l...)
	}
	if got, e := checked.Sum(); got != 0 || e != api.OK {
		t.Errorf("Sum() = %d, error %d", got, e)
	}
	for n := range 60 {
		for seed := range uint64(20) {
			checkSum(t, sample(seed, n))
		}
	}
	checkSum(t, corners())
}

// checkSum compares Sum with the model.
func checkSum(t *testing.T, l []int64) {
	t.Helper()
	total := new(big.Int)
	for _, n := range l {
		total.Add(total, exact(n))
	}
	got, e := checked.Sum(l...)
	want, we := fit(total)
	check(t, got, e, want, we, "Sum", l...)
}

// P1.2
func TestSumOfManyNumbers(t *testing.T) {
	const n = 100000
	ups, downs := slices.Repeat([]int64{most}, n), slices.Repeat([]int64{least}, n)
	got, e := checked.Sum(ups...)
	check(t, got, e, 0, api.ErrOver, "Sum of many greatest numbers")
	got, e = checked.Sum(downs...)
	check(t, got, e, 0, api.ErrOver, "Sum of many least numbers")
	got, e = checked.Sum(append(ups, downs...)...)
	check(t, got, e, -n, api.OK, "Sum of as many of both")
	got, e = checked.Sum(append(downs, ups...)...)
	check(t, got, e, -n, api.OK, "Sum of as many of both")
}

// P1.3
func TestMulDiv(t *testing.T) {
	for _, c := range []struct {
		a, b, c, want int64
		e             api.Errno
	}{
		{6, 4, 3, 8, api.OK}, {7, 1, 2, 3, api.OK}, {-7, 1, 2, -4, api.OK}, {7, -1, 2, -4, api.OK}, {-7, -1, 2, 3, api.OK},
		{-8, 1, 2, -4, api.OK}, {0, least, 1, 0, api.OK}, {-1, 1, most, -1, api.OK}, {1, 1, most, 0, api.OK},
		{1 << 62, 6, 4, 6917529027641081856, api.OK}, {most, most, most, most, api.OK}, {least, most, most, least, api.OK},
		{least, 1, 1, least, api.OK}, {most, -2, 2, -most, api.OK}, {least, least, most, 0, api.ErrOver},
		// Around the ends: 2^63 - 1/2, its negation, -2^63 - 1/2, and 2^63.
		{4294967295, 4294967297, 2, most, api.OK}, {-4294967295, 4294967297, 2, least, api.OK},
		{-274177, 67280421310721, 2, 0, api.ErrOver}, {274177, 67280421310721, 2, 0, api.ErrOver}, {1 << 62, 2, 1, 0, api.ErrOver},
		// Quotients from 2^63 to 2^64 - 1, and above.
		{4294967295, 4294967297, 1, 0, api.ErrOver}, {-4294967295, 4294967297, 1, 0, api.ErrOver},
		{1 << 32, 1 << 32, 1, 0, api.ErrOver}, {-1 << 32, 1 << 32, 1, 0, api.ErrOver},
		{least, least, 1, 0, api.ErrOver}, {most, least, 1, 0, api.ErrOver}, {least, -1, 1, 0, api.ErrOver},
		// A c that is not valid, also where the quotient would not fit.
		{1, 1, 0, 0, api.ErrArg}, {1, 1, -1, 0, api.ErrArg}, {0, 0, 0, 0, api.ErrArg}, {most, most, 0, 0, api.ErrArg},
		{most, most, -1, 0, api.ErrArg}, {1, 1, least, 0, api.ErrArg},
	} {
		got, e := checked.MulDiv(c.a, c.b, c.c)
		check(t, got, e, c.want, c.e, "MulDiv", c.a, c.b, c.c)
	}
	triples(func(a, b, c int64) {
		want, we := int64(0), api.ErrArg
		if c >= 1 {
			p := new(big.Int).Mul(exact(a), exact(b))
			want, we = fit(p.Div(p, exact(c)))
		}
		got, e := checked.MulDiv(a, b, c)
		check(t, got, e, want, we, "MulDiv", a, b, c)
	})
}

// P1.4
func TestReduce(t *testing.T) {
	for _, c := range []struct {
		n, d int64
		want api.Frac
		e    api.Errno
	}{
		{6, -4, api.Frac{N: -3, D: 2}, api.OK}, {-6, 4, api.Frac{N: -3, D: 2}, api.OK}, {-6, -4, api.Frac{N: 3, D: 2}, api.OK},
		{12, 18, api.Frac{N: 2, D: 3}, api.OK}, {3, 7, api.Frac{N: 3, D: 7}, api.OK}, {7, 7, api.Frac{N: 1, D: 1}, api.OK},
		{0, -5, api.Frac{N: 0, D: 1}, api.OK}, {0, 5, api.Frac{N: 0, D: 1}, api.OK}, {0, least, api.Frac{N: 0, D: 1}, api.OK},
		{1 << 62, least, api.Frac{N: -1, D: 2}, api.OK}, {least, least, api.Frac{N: 1, D: 1}, api.OK},
		{least, 2, api.Frac{N: -1 << 62, D: 1}, api.OK}, {least, 1, api.Frac{N: least, D: 1}, api.OK},
		{least, 3, api.Frac{N: least, D: 3}, api.OK}, {least, -2, api.Frac{N: 1 << 62, D: 1}, api.OK},
		{most, -most, api.Frac{N: -1, D: 1}, api.OK}, {1, most, api.Frac{N: 1, D: most}, api.OK}, {most, -1, api.Frac{N: -most, D: 1}, api.OK},
		{least, -1, api.Frac{}, api.ErrOver}, {least, -3, api.Frac{}, api.ErrOver}, {1, least, api.Frac{}, api.ErrOver},
		{-1, least, api.Frac{}, api.ErrOver}, {most, least, api.Frac{}, api.ErrOver}, {least, -most, api.Frac{}, api.ErrOver},
		{0, 0, api.Frac{}, api.ErrArg}, {1, 0, api.Frac{}, api.ErrArg}, {least, 0, api.Frac{}, api.ErrArg},
	} {
		if got, e := checked.Reduce(c.n, c.d); got != c.want || e != c.e {
			t.Errorf("Reduce(%d, %d) = %v, error %d; expected %v, error %d", c.n, c.d, got, e, c.want, c.e)
		}
	}
	pairs(func(n, d int64) {
		want, we := reduced(n, d)
		if got, e := checked.Reduce(n, d); got != want || e != we {
			t.Fatalf("Reduce(%d, %d) = %v, error %d; expected %v, error %d", n, d, got, e, want, we)
		}
	})
}

// reduced is what Reduce is expected to return.
func reduced(n, d int64) (api.Frac, api.Errno) {
	if d == 0 {
		return api.Frac{}, api.ErrArg
	}
	r := big.NewRat(1, 1).SetFrac(exact(n), exact(d))
	if !r.Num().IsInt64() || !r.Denom().IsInt64() {
		return api.Frac{}, api.ErrOver
	}
	return api.Frac{N: r.Num().Int64(), D: r.Denom().Int64()}, api.OK
}

// P1.5
func TestCompare(t *testing.T) {
	for _, c := range []struct {
		a, b api.Frac
		want int
		e    api.Errno
	}{
		{api.Frac{N: 1, D: 2}, api.Frac{N: 2, D: 4}, 0, api.OK}, {api.Frac{N: 1, D: 3}, api.Frac{N: 1, D: 2}, -1, api.OK},
		{api.Frac{N: 1, D: 2}, api.Frac{N: 1, D: 3}, 1, api.OK}, {api.Frac{N: -1, D: 3}, api.Frac{N: -1, D: 2}, 1, api.OK},
		{api.Frac{N: -1, D: 2}, api.Frac{N: 1, D: 3}, -1, api.OK}, {api.Frac{N: 0, D: 7}, api.Frac{N: 0, D: 1}, 0, api.OK},
		{api.Frac{N: 0, D: 7}, api.Frac{N: -1, D: most}, 1, api.OK}, {api.Frac{N: 0, D: 1}, api.Frac{N: 1, D: most}, -1, api.OK},
		{api.Frac{N: most, D: most - 1}, api.Frac{N: most - 1, D: most - 2}, -1, api.OK},
		{api.Frac{N: least, D: 1}, api.Frac{N: least, D: 2}, -1, api.OK}, {api.Frac{N: least, D: 1}, api.Frac{N: most, D: 1}, -1, api.OK},
		{api.Frac{N: least, D: most}, api.Frac{N: least, D: most - 1}, 1, api.OK}, {api.Frac{N: least, D: 1 << 62}, api.Frac{N: -2, D: 1}, 0, api.OK},
		{api.Frac{N: -1, D: 3}, api.Frac{N: 1, D: -3}, 0, api.ErrArg}, {api.Frac{N: 1, D: -3}, api.Frac{N: -1, D: 3}, 0, api.ErrArg},
		{api.Frac{N: 1, D: 0}, api.Frac{N: 1, D: 1}, 0, api.ErrArg}, {api.Frac{N: 2, D: 1}, api.Frac{N: 1, D: 0}, 0, api.ErrArg},
		{api.Frac{}, api.Frac{}, 0, api.ErrArg}, {api.Frac{N: 1, D: least}, api.Frac{N: 2, D: least}, 0, api.ErrArg},
	} {
		if got, e := checked.Compare(c.a, c.b); got != c.want || e != c.e {
			t.Errorf("Compare(%v, %v) = %d, error %d; expected %d, error %d", c.a, c.b, got, e, c.want, c.e)
		}
	}
	for _, a := range fractions() {
		for _, b := range fractions() {
			compareByModel(t, a, b)
		}
	}
	l := sample(4, 80000)
	for i := 0; i+3 < len(l); i += 4 {
		compareByModel(t, api.Frac{N: l[i], D: l[i+1]}, api.Frac{N: l[i+2], D: l[i+3]})
	}
}

// compareByModel compares Compare with the model.
func compareByModel(t *testing.T, a, b api.Frac) {
	t.Helper()
	want, we := 0, api.ErrArg
	if a.D >= 1 && b.D >= 1 {
		want, we = big.NewRat(a.N, a.D).Cmp(big.NewRat(b.N, b.D)), api.OK
	}
	if got, e := checked.Compare(a, b); got != want || e != we {
		t.Fatalf("Compare(%v, %v) = %d, error %d; expected %d, error %d", a, b, got, e, want, we)
	}
}
