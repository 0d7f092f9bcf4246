package checked_test

import (
	"math/big"
	"slices"
	"testing"

	"seepage/api"
	"seepage/checked"
)

// P1.6
func TestInverseOperations(t *testing.T) {
	sums, products := 0, 0
	pairs(func(a, b int64) {
		if c, e := checked.Add(a, b); e == api.OK {
			sums++
			back, e := checked.Sub(c, b)
			check(t, back, e, a, api.OK, "Sub", c, b)
		}
		if c, e := checked.Mul(a, b); e == api.OK && b >= 1 {
			products++
			back, e := checked.MulDiv(c, 1, b)
			check(t, back, e, a, api.OK, "MulDiv", c, 1, b)
		}
	})
	if sums == 0 || products == 0 {
		t.Errorf("%d sums and %d products fit", sums, products)
	}
}

// P1.7
func TestOrderOfTheNumbers(t *testing.T) {
	for seed := range uint64(200) {
		l := append(sample(seed, 12), most, most, least, least, -1)
		want, we := checked.Sum(l...)
		for range l {
			l = append(l[1:], l[0])
			got, e := checked.Sum(l...)
			check(t, got, e, want, we, "Sum", l...)
		}
		slices.Reverse(l)
		got, e := checked.Sum(l...)
		check(t, got, e, want, we, "Sum", l...)
		slices.Sort(l)
		got, e = checked.Sum(l...)
		check(t, got, e, want, we, "Sum", l...)
	}
}

// P1.7
func TestSumOfBothLists(t *testing.T) {
	lists := [][]int64{nil, {0}, {most}, {least}, {-1}, {1}, {most, 1, -1}, {least, most}, {most, -5}, {least, -1, 7}}
	for seed := range uint64(30) {
		lists = append(lists, sample(seed, 5))
	}
	fits, over := 0, 0
	for _, l := range lists {
		for _, m := range lists {
			a, e1 := checked.Sum(l...)
			b, e2 := checked.Sum(m...)
			if e1 != api.OK || e2 != api.OK {
				continue
			}
			want, we := checked.Add(a, b)
			both := slices.Concat(l, m)
			got, e := checked.Sum(both...)
			check(t, got, e, want, we, "Sum", both...)
			if we == api.OK {
				fits++
			} else {
				over++
			}
		}
	}
	if fits == 0 || over == 0 {
		t.Errorf("%d sums fit, %d do not", fits, over)
	}
}

// P1.8
func TestRounding(t *testing.T) {
	rounded := 0
	triples(func(a, b, c int64) {
		q, e := checked.MulDiv(a, b, c)
		if c < 1 || e != api.OK {
			return
		}
		left, e1 := checked.Mul(a, b)
		right, e2 := checked.Mul(q, c)
		if e1 == api.OK && e2 == api.OK {
			rest := new(big.Int).Sub(exact(left), exact(right))
			if rest.Sign() < 0 || rest.Cmp(exact(c)) >= 0 {
				t.Fatalf("MulDiv(%d, %d, %d) = %d leaves %s", a, b, c, q, rest)
			}
			rounded++
		}
		back, e := checked.MulDiv(a, c, c)
		check(t, back, e, a, api.OK, "MulDiv", a, c, c)
	})
	if rounded == 0 {
		t.Error("no products fit")
	}
}

// P1.9
func TestOrderOfTheFractions(t *testing.T) {
	l := fractions()
	compare := func(a, b api.Frac) int {
		c, e := checked.Compare(a, b)
		if e != api.OK {
			t.Fatalf("Compare(%v, %v): error %d", a, b, e)
		}
		return c
	}
	for _, a := range l {
		for _, b := range l {
			if compare(a, b) != -compare(b, a) {
				t.Fatalf("Compare(%v, %v) is %d, the other way round %d", a, b, compare(a, b), compare(b, a))
			}
			for _, c := range l {
				if compare(a, b) <= 0 && compare(b, c) <= 0 && compare(a, c) > 0 {
					t.Fatalf("%v, %v, %v are not in order", a, b, c)
				}
			}
		}
	}
}

// P1.9
func TestReduceKeepsTheValue(t *testing.T) {
	l := fractions()
	for _, a := range l {
		r, e := checked.Reduce(a.N, a.D)
		if e != api.OK {
			t.Fatalf("Reduce(%d, %d): error %d", a.N, a.D, e)
		}
		if c, e := checked.Compare(r, a); c != 0 || e != api.OK {
			t.Errorf("Reduce(%d, %d) = %v is not equal to it", a.N, a.D, r)
		}
		if g := new(big.Int).GCD(nil, nil, new(big.Int).Abs(exact(r.N)), exact(r.D)); r.D < 1 || g.Cmp(exact(1)) != 0 {
			t.Errorf("Reduce(%d, %d) = %v is not in lowest terms", a.N, a.D, r)
		}
		for _, b := range l {
			c, _ := checked.Compare(a, b)
			s, _ := checked.Reduce(b.N, b.D)
			if (c == 0) != (r == s) {
				t.Errorf("Compare(%v, %v) = %d, but they reduce to %v and %v", a, b, c, r, s)
			}
		}
	}
}

// R3, R4: Sum treats nil as an empty list, and neither changes its list nor
// looks at what is beyond its length.
func TestSumLeavesItsListAlone(t *testing.T) {
	if got, e := checked.Sum([]int64(nil)...); got != 0 || e != api.OK {
		t.Errorf("Sum(nil) = %d, error %d", got, e)
	}
	all := []int64{3, most, -1, most, least, 9}
	kept := slices.Clone(all)
	got, e := checked.Sum(all[:1]...)
	check(t, got, e, 3, api.OK, "Sum", all[:1]...)
	got, e = checked.Sum(all[1:3]...)
	check(t, got, e, most-1, api.OK, "Sum", all[1:3]...)
	checked.Sum(all[:4]...)
	if !slices.Equal(all, kept) {
		t.Errorf("Sum has changed its list to %v", all)
	}
}

// P1, R1, R8: every call ends without a panic, returns zero values together
// with an error and no other errors than those of the chapter, and returns the
// same when it is repeated.
func TestAllArguments(t *testing.T) {
	type result struct {
		n int64
		f api.Frac
		e api.Errno
	}
	all := func(a, b, c int64) []result {
		var l []result
		number := func(n int64, e api.Errno) { l = append(l, result{n: n, e: e}) }
		number(checked.Add(a, b))
		number(checked.Sub(a, b))
		number(checked.Mul(a, b))
		number(checked.Sum(a, b, c))
		number(checked.MulDiv(a, b, c))
		f, e := checked.Reduce(a, b)
		l = append(l, result{f: f, e: e})
		order, e := checked.Compare(api.Frac{N: a, D: b}, api.Frac{N: b, D: c})
		return append(l, result{n: int64(order), e: e})
	}
	triples(func(a, b, c int64) {
		first := all(a, b, c)
		for i, r := range first {
			if r.e != api.OK && (r.n != 0 || r.f != api.Frac{}) {
				t.Fatalf("call %d with %d, %d, %d returns a value with error %d", i, a, b, c, r.e)
			}
			if r.e != api.OK && r.e != api.ErrArg && r.e != api.ErrOver {
				t.Fatalf("call %d with %d, %d, %d returns error %d", i, a, b, c, r.e)
			}
		}
		if !slices.Equal(first, all(a, b, c)) {
			t.Fatalf("calls with %d, %d, %d return something else when repeated", a, b, c)
		}
	})
}
