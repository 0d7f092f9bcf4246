package crit_test

import (
	"math"
	"math/rand/v2"
	"slices"
	"testing"

	"seepage/api"
	"seepage/canon"
	"seepage/crit"
)

// averages returns the averages of values on a grid.
func averages(t *testing.T, values []float64, steps int) []float64 {
	t.Helper()
	l, e := crit.Grid(steps)
	if e != api.OK {
		t.Fatalf("Grid(%d): error %d", steps, e)
	}
	averages, e := canon.Curve(values, l)
	if e != api.OK {
		t.Fatalf("Curve: error %d", e)
	}
	return averages
}

func someValues(r *rand.Rand) []float64 {
	l := make([]float64, 1+r.IntN(20))
	for i := range l {
		l[i] = float64(r.IntN(9)-4) / 2
		if r.IntN(8) == 0 {
			l[i] = math.Ldexp(r.Float64()-0.5, r.IntN(90))
		}
	}
	return l
}

// P32.3, P32.4
func TestGridsByDefinition(t *testing.T) {
	found := 0
	for seed := range uint64(400) {
		r := rand.New(rand.NewPCG(seed, 32))
		a, b, steps := someValues(r), someValues(r), 1+r.IntN(30)
		first, second := averages(t, a, steps), averages(t, b, steps)
		at := 0
		for i, x := range first {
			if x > first[at] {
				at = i
			}
		}
		peak(t, a, steps, float64(at)/float64(steps), api.OK)
		sign := func(i int) [2]bool { return [2]bool{first[i] < second[i], first[i] > second[i]} }
		want, ok := 0.0, false
		for i := steps; i >= 1; i-- {
			if sign(i) != sign(i-1) {
				want, ok = float64(i)/float64(steps), true
			}
		}
		if ok {
			found++
		}
		cross(t, a, b, steps, want, ok, api.OK)
	}
	if found < 50 {
		t.Errorf("only %d averages cross", found)
	}
}

// P32.2, P32.6
func TestSolveByDefinition(t *testing.T) {
	for seed := range uint64(300) {
		r := rand.New(rand.NewPCG(seed, 322))
		l := someValues(r)
		slices.Sort(l)
		last := 0.0
		var targets []float64
		for range 4 {
			targets = append(targets, l[0]+(l[len(l)-1]-l[0])*r.Float64(), l[r.IntN(len(l))])
		}
		slices.Sort(targets)
		for _, target := range targets {
			low, high := 0.0, 1.0
			for range 60 {
				half := (high - low) / 2
				p := low + half
				if a, _ := canon.Average(l, p); a < target {
					low = p
				} else {
					high = p
				}
			}
			if target < l[0] || target > l[len(l)-1] {
				solve(t, l, target, 0, api.ErrNone)
				continue
			}
			solve(t, l, target, high, api.OK)
			if a, e := canon.Average(l, high); high <= 0 || high > 1 || high < last || a < target || e != api.OK {
				t.Fatalf("Solve(%v, %g) = %g, after %g; the average is %g", l, target, high, last, a)
			}
			last = high
		}
	}
}

// P32.5, P32.6
func TestMeanByDefinition(t *testing.T) {
	for seed := range uint64(300) {
		r := rand.New(rand.NewPCG(seed, 325))
		l := someValues(r)
		n := float64(len(l))
		sum := 0.0
		for i := range l {
			sum = float64(sum + l[i])
		}
		middle := sum / n
		squares := 0.0
		for i := range l {
			d := float64(l[i] - middle)
			square := float64(d * d)
			squares = float64(squares + square)
		}
		mean(t, l, middle, squares/n, api.OK)
		if squares < 0 {
			t.Errorf("the variance of %v is below 0", l)
		}
	}
}
