package canon_test

import (
	"math"
	"math/big"
	"math/rand/v2"
	"slices"
	"testing"

	"seepage/api"
	"seepage/canon"
)

// closeTo is how exact the properties are.
const closeTo = 1.0 / (1 << 30)

// stepwise returns the weights as the chapter defines them. Each operation is
// rounded by itself.
func stepwise(m int, p float64) []float64 {
	w := make([]float64, m+1)
	first := int(math.Floor(float64(m+1) * p))
	if first > m {
		first = m
	}
	w[first] = 1
	for k := first; k < m; k++ {
		q := float64(m-k) / float64(k+1)
		none := float64(1 - p)
		odds := float64(p / none)
		x := float64(w[k] * q)
		w[k+1] = float64(x * odds)
	}
	for k := first; k > 0; k-- {
		q := float64(k) / float64(m-k+1)
		none := float64(1 - p)
		odds := float64(none / p)
		x := float64(w[k] * q)
		w[k-1] = float64(x * odds)
	}
	s := 0.0
	for k := range w {
		s = float64(s + w[k])
	}
	for k := range w {
		w[k] = float64(w[k] / s)
	}
	return w
}

// summed returns the weighted sum of numbers.
func summed(x []float64, p float64) float64 {
	v := stepwise(len(x)-1, p)
	sum := 0.0
	for k := range x {
		term := float64(x[k] * v[k])
		sum = float64(sum + term)
	}
	return sum
}

func someProbability(r *rand.Rand) float64 {
	switch r.IntN(8) {
	case 0:
		return float64(r.IntN(5)) / 4
	case 1:
		return math.Ldexp(r.Float64(), -r.IntN(1070))
	case 2:
		return 1 - math.Ldexp(r.Float64(), -r.IntN(53))
	default:
		return r.Float64()
	}
}

func someNumbers(r *rand.Rand, n int) []float64 {
	l := make([]float64, n)
	for i := range l {
		l[i] = r.Float64()*20 - 10
		if r.IntN(6) == 0 {
			l[i] = math.Ldexp(l[i], r.IntN(140)-50)
		}
	}
	return l
}

// P31.1 to P31.4: the same numbers as those of the definition, to the last bit.
func TestByDefinition(t *testing.T) {
	for seed := range uint64(600) {
		r := rand.New(rand.NewPCG(seed, 31))
		m, p := r.IntN(60), someProbability(r)
		if seed%50 == 0 {
			m = r.IntN(api.MaxEdges + 1)
		}
		weights(t, m, p, stepwise(m, p)...)
		l := someNumbers(r, m+1)
		average(t, l, p, summed(l, p))
		if m > 0 {
			differences := make([]float64, m)
			for k := range differences {
				differences[k] = float64(l[k+1] - l[k])
			}
			slope(t, l, p, float64(m)*summed(differences, p))
		}
		ps := []float64{p, someProbability(r), someProbability(r)}
		curve(t, l, ps, summed(l, ps[0]), summed(l, ps[1]), summed(l, ps[2]))
	}
}

// P31.1: the weights are those of the binomial distribution.
func TestBinomial(t *testing.T) {
	for seed := range uint64(60) {
		r := rand.New(rand.NewPCG(seed, 311))
		m, p := r.IntN(40), someProbability(r)
		yes := new(big.Rat).SetFloat64(p)
		no := new(big.Rat).Sub(big.NewRat(1, 1), yes)
		got, _ := canon.Weights(m, p)
		for k := range m + 1 {
			want := new(big.Rat).SetInt(new(big.Int).Binomial(int64(m), int64(k)))
			for i := range m {
				if i < k {
					want.Mul(want, yes)
				} else {
					want.Mul(want, no)
				}
			}
			if exact, _ := want.Float64(); math.Abs(got[k]-exact) > closeTo {
				t.Fatalf("Weights(%d, %g): %g at %d, expected %g", m, p, got[k], k, exact)
			}
		}
	}
}

// P31.6
func TestWeightsProperties(t *testing.T) {
	for seed := range uint64(300) {
		r := rand.New(rand.NewPCG(seed, 316))
		m, p := r.IntN(100), float64(r.IntN(1<<20+1))/(1<<20)
		if seed%30 == 0 {
			m = r.IntN(api.MaxEdges + 1)
		}
		w, _ := canon.Weights(m, p)
		sum := 0.0
		for k, x := range w {
			if x < 0 || x > 1 {
				t.Fatalf("Weights(%d, %g): %g at %d", m, p, x, k)
			}
			sum += x
		}
		if math.Abs(sum-1) > closeTo {
			t.Fatalf("Weights(%d, %g): the sum is %g", m, p, sum)
		}
		other, _ := canon.Weights(m, 1-p)
		slices.Reverse(other)
		for k := range w {
			if math.Abs(w[k]-other[k]) > closeTo {
				t.Fatalf("Weights(%d, %g): %g at %d; %g for 1-p", m, p, w[k], k, other[k])
			}
		}
		one, _ := canon.Weights(1, p)
		if math.Abs(one[0]-(1-p)) > closeTo {
			t.Fatalf("Weights(1, %g) = %v", p, one)
		}
	}
}

// P31.7 to P31.9
func TestAverageProperties(t *testing.T) {
	for seed := range uint64(300) {
		r := rand.New(rand.NewPCG(seed, 317))
		m, p := r.IntN(80), someProbability(r)
		if seed%60 == 0 {
			m = api.MaxEdges
		}
		l, o := someNumbers(r, m+1), someNumbers(r, m+1)
		average(t, l, 0, l[0])
		average(t, l, math.Copysign(0, -1), l[0])
		average(t, l, 1, l[m])
		amount := func(l []float64) float64 { return max(-slices.Min(l), slices.Max(l)) }
		a, _ := canon.Average(l, p)
		b, _ := canon.Average(o, p)
		if off := closeTo * amount(l); a < slices.Min(l)-off || a > slices.Max(l)+off {
			t.Fatalf("Average(%v, %g) = %g", l, p, a)
		}
		both := make([]float64, m+1)
		for k := range both {
			both[k] = l[k] + o[k]
		}
		if c, _ := canon.Average(both, p); math.Abs(c-(a+b)) > closeTo*(amount(l)+amount(o)) {
			t.Fatalf("averages %g and %g, and %g of the sums", a, b, c)
		}
		if c, _ := canon.Average(numbers(m), p); math.Abs(c-float64(m)*p) > closeTo*float64(max(m, 1)) {
			t.Fatalf("the average of 0 to %d with %g is %g", m, p, c)
		}
		if c, _ := canon.Slope(numbers(m), p); math.Abs(c-float64(m)) > float64(m)*closeTo {
			t.Fatalf("the slope of 0 to %d with %g is %g", m, p, c)
		}
		slices.Sort(l)
		if c, _ := canon.Slope(l, p); c < 0 {
			t.Fatalf("Slope(%v, %g) = %g", l, p, c)
		}
	}
}
