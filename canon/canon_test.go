package canon_test

import (
	"math"
	"slices"
	"testing"

	"seepage/api"
	"seepage/canon"
)

const great = 1 << 100

func weights(t *testing.T, m int, p float64, want ...float64) {
	t.Helper()
	if got, e := canon.Weights(m, p); !slices.Equal(got, want) || e != api.OK {
		t.Errorf("Weights(%d, %g) = %v, error %d; expected %v", m, p, got, e, want)
	}
}

func average(t *testing.T, values []float64, p, want float64) {
	t.Helper()
	if got, e := canon.Average(values, p); got != want || e != api.OK {
		t.Errorf("Average(%d values, %g) = %g, error %d; expected %g", len(values), p, got, e, want)
	}
}

func slope(t *testing.T, values []float64, p, want float64) {
	t.Helper()
	if got, e := canon.Slope(values, p); got != want || e != api.OK {
		t.Errorf("Slope(%d values, %g) = %g, error %d; expected %g", len(values), p, got, e, want)
	}
}

func curve(t *testing.T, values, ps []float64, want ...float64) {
	t.Helper()
	if got, e := canon.Curve(values, ps); !slices.Equal(got, want) || e != api.OK {
		t.Errorf("Curve(%d values, %d probabilities) = %d averages, error %d", len(values), len(ps), len(got), e)
		for i := range min(len(got), len(want), 5) {
			t.Errorf("%g: %g, expected %g", ps[i], got[i], want[i])
		}
	}
}

func values(t *testing.T, l []api.Row, n, what int, want ...float64) {
	t.Helper()
	if got, e := canon.Values(l, n, what); !slices.Equal(got, want) || e != api.OK {
		t.Errorf("Values(%v, %d, %d) = %v, error %d; expected %v", l, n, what, got, e, want)
	}
}

// refused expects that the functions of a list of values return ErrArg.
func refused(t *testing.T, l []float64, p float64) {
	t.Helper()
	if got, e := canon.Average(l, p); got != 0 || e != api.ErrArg {
		t.Errorf("Average(%d values, %g) = %g, error %d", len(l), p, got, e)
	}
	if got, e := canon.Slope(l, p); got != 0 || e != api.ErrArg {
		t.Errorf("Slope(%d values, %g) = %g, error %d", len(l), p, got, e)
	}
	for _, ps := range [][]float64{{p}, {p, 0.5}, {0.5, p}} {
		if got, e := canon.Curve(l, ps); len(got) != 0 || e != api.ErrArg {
			t.Errorf("Curve(%d values, %v) = %v, error %d", len(l), ps, got, e)
		}
	}
}

// numbers returns the numbers from 0 to m.
func numbers(m int) []float64 {
	var l []float64
	for k := range m + 1 {
		l = append(l, float64(k))
	}
	return l
}

// noProbabilities are numbers that are no probabilities.
func noProbabilities() []float64 {
	return []float64{1.5, -0.5, math.Nextafter(1, 2), math.Nextafter(0, -1), 2, -1, math.NaN(), math.Inf(1), math.Inf(-1), math.MaxFloat64, -math.MaxFloat64}
}

// P31.1 to P31.5: the chapter's examples.
func TestExamples(t *testing.T) {
	weights(t, 2, 0.5, 0.25, 0.5, 0.25)
	weights(t, 3, 0, 1, 0, 0, 0)
	weights(t, 1, 1, 0, 1)
	weights(t, 0, 0.3, 1)
	average(t, []float64{1, 3, 2}, 0.5, 2.25)
	slope(t, []float64{1, 3, 2}, 0.5, 1)
	curve(t, []float64{1, 3}, []float64{0, 0.25, 1}, 1, 1.5, 3)
	values(t, []api.Row{{Largest: 1, Count: 4, Squares: 4}, {Largest: 2, Count: 3, Squares: 6}}, 4, 3, 1, 1.5)
	if got, e := canon.Weights(-1, 0.5); len(got) != 0 || e != api.ErrArg {
		t.Errorf("Weights(-1, 0.5) = %v, error %d", got, e)
	}
	if got, e := canon.Weights(1, 1.5); len(got) != 0 || e != api.ErrArg {
		t.Errorf("Weights(1, 1.5) = %v, error %d", got, e)
	}
	refused(t, nil, 0.5)
}

// P31.1: arguments that are not valid, and the limits.
func TestWeights(t *testing.T) {
	for _, m := range []int{-1, api.MaxEdges + 1, math.MinInt, math.MaxInt} {
		for _, p := range []float64{0, 0.5, 1, math.NaN()} {
			if got, e := canon.Weights(m, p); len(got) != 0 || e != api.ErrArg {
				t.Errorf("Weights(%d, %g) = %d weights, error %d", m, p, len(got), e)
			}
		}
	}
	for _, p := range noProbabilities() {
		for _, m := range []int{0, 1, api.MaxEdges} {
			if got, e := canon.Weights(m, p); len(got) != 0 || e != api.ErrArg {
				t.Errorf("Weights(%d, %g) = %d weights, error %d", m, p, len(got), e)
			}
		}
	}
	got, e := canon.Weights(api.MaxEdges, 0.5)
	if len(got) != api.MaxEdges+1 || e != api.OK {
		t.Errorf("%d weights, error %d", len(got), e)
	}
	minus := math.Copysign(0, -1)
	weights(t, 0, minus, 1)
	weights(t, 3, minus, 1, 0, 0, 0)
	weights(t, 3, 1, 0, 0, 0, 1)
	weights(t, 0, 1, 1)
	weights(t, 0, 0, 1)
	weights(t, 1, 0.25, 0.75, 0.25)
	// The least probability, and the one next to 1.
	weights(t, 1, math.SmallestNonzeroFloat64, 1, math.SmallestNonzeroFloat64)
	weights(t, 2, math.SmallestNonzeroFloat64, 1, 2*math.SmallestNonzeroFloat64, 0)
	near := math.Nextafter(1, 0)
	if got, e := canon.Weights(2, near); len(got) != 3 || e != api.OK || got[2] < 1-1.0/(1<<50) || got[1] < 0 || got[0] < 0 {
		t.Errorf("Weights(2, %g) = %v, error %d", near, got, e)
	}
}

// P31.2 to P31.4: lists that are no lists of values, and numbers that are no
// probabilities.
func TestRefused(t *testing.T) {
	over := math.Nextafter(great, math.Inf(1))
	for _, x := range []float64{math.NaN(), math.Inf(1), math.Inf(-1), over, -over, math.MaxFloat64} {
		for _, l := range [][]float64{{x}, {x, 0}, {0, x}, {0, x, 0}} {
			refused(t, l, 0.5)
			refused(t, l, 0)
		}
	}
	refused(t, nil, 0)
	refused(t, []float64{}, 1)
	refused(t, make([]float64, api.MaxEdges+2), 0.5)
	for _, p := range noProbabilities() {
		refused(t, []float64{1}, p)
		refused(t, []float64{1, 2, 3}, p)
		refused(t, nil, p)
	}
	average(t, []float64{great, -great}, 0.5, 0)
	average(t, []float64{great, -great}, 1, -great)
	slope(t, []float64{great, -great}, 0.25, -2*great)
	slope(t, []float64{great}, 0.25, 0)
	average(t, []float64{7}, 0.3, 7)
	zeros := make([]float64, api.MaxEdges+1)
	average(t, zeros, 0.5, 0)
	slope(t, zeros, 0.5, 0)
	curve(t, zeros, []float64{0.25, 1}, 0, 0)
}

// P31.4
func TestCurve(t *testing.T) {
	l := []float64{1, 2}
	curve(t, l, nil)
	curve(t, l, []float64{1, 0.5, 1, math.Copysign(0, -1)}, 2, 1.5, 2, 1)
	ps, want := make([]float64, 1025), make([]float64, 1024)
	for i := range want {
		ps[i] = float64(i) / 1024
		want[i], _ = canon.Average(l, ps[i])
	}
	curve(t, l, ps[:1024], want...)
	if got, e := canon.Curve(l, ps); len(got) != 0 || e != api.ErrLong {
		t.Errorf("1025 probabilities: %d averages, error %d", len(got), e)
	}
	ps[3] = 2
	for _, bad := range [][]float64{nil, {math.NaN()}, make([]float64, api.MaxEdges+2)} {
		if got, e := canon.Curve(bad, ps); len(got) != 0 || e != api.ErrLong {
			t.Errorf("1025 probabilities: %d averages, error %d", len(got), e)
		}
		if got, e := canon.Curve(bad, nil); len(got) != 0 || e != api.ErrArg {
			t.Errorf("Curve(%d values, none) = %v, error %d", len(bad), got, e)
		}
	}
	if got, e := canon.Curve(l, ps[:1024]); len(got) != 0 || e != api.ErrArg {
		t.Errorf("Curve = %d averages, error %d", len(got), e)
	}
}

// P31.5
func TestValues(t *testing.T) {
	l := []api.Row{{Largest: 3, Count: -6, Squares: 1<<62 + 1}, {Largest: math.MaxInt, Count: 9, Squares: -5}}
	values(t, l, 1, 1, 3, 1<<63)
	values(t, l, 2, 2, -3, 4.5)
	values(t, l, 4, 3, 1<<60, -1.25)
	values(t, l[:1], 3, 1, 1)
	values(t, l[:1], math.MaxInt, 2, -6.0/(1<<63))
	values(t, l[1:], math.MaxInt, 1, 1)
	for _, c := range [][2]int{{0, 1}, {-1, 1}, {math.MinInt, 1}, {1, 0}, {1, 4}, {1, -1}, {1, math.MaxInt}, {1, math.MinInt}, {0, 0}} {
		if got, e := canon.Values(l, c[0], c[1]); len(got) != 0 || e != api.ErrArg {
			t.Errorf("Values(.., %d, %d) = %v, error %d", c[0], c[1], got, e)
		}
	}
	for _, n := range []int{0, api.MaxEdges + 2} {
		if got, e := canon.Values(make([]api.Row, n), 1, 1); len(got) != 0 || e != api.ErrArg {
			t.Errorf("%d rows: %v, error %d", n, got, e)
		}
	}
	if got, e := canon.Values(make([]api.Row, api.MaxEdges+1), 1, 1); len(got) != api.MaxEdges+1 || e != api.OK {
		t.Errorf("%d values, error %d", len(got), e)
	}
}

// R4
func TestMemory(t *testing.T) {
	l, ps := []float64{1, 3, 5}, []float64{0, 1, 2}
	average(t, l[:2], 0.5, 2)
	slope(t, l[:2], 0.5, 2)
	curve(t, l[:2], ps[:2], 1, 3)
	if !slices.Equal(l, []float64{1, 3, 5}) || !slices.Equal(ps, []float64{0, 1, 2}) {
		t.Errorf("%v, %v", l, ps)
	}
}
