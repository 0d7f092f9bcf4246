package crit_test

import (
	"math"
	"slices"
	"testing"

	"seepage/api"
	"seepage/crit"
)

const great = 1 << 100

func solve(t *testing.T, values []float64, target, want float64, we api.Errno) {
	t.Helper()
	if got, e := crit.Solve(values, target); got != want || e != we {
		t.Errorf("Solve(%d values, %g) = %g, error %d; expected %g, error %d", len(values), target, got, e, want, we)
	}
}

func peak(t *testing.T, values []float64, steps int, want float64, we api.Errno) {
	t.Helper()
	if got, e := crit.Peak(values, steps); got != want || e != we {
		t.Errorf("Peak(%d values, %d) = %g, error %d; expected %g, error %d", len(values), steps, got, e, want, we)
	}
}

func cross(t *testing.T, a, b []float64, steps int, want float64, wok bool, we api.Errno) {
	t.Helper()
	if got, ok, e := crit.Cross(a, b, steps); got != want || ok != wok || e != we {
		t.Errorf("Cross(%d values, %d values, %d) = %g, %t, error %d; expected %g, %t, error %d", len(a), len(b), steps, got, ok, e, want, wok, we)
	}
}

func mean(t *testing.T, l []float64, want, wantVariance float64, we api.Errno) {
	t.Helper()
	if got, variance, e := crit.Mean(l); got != want || variance != wantVariance || e != we {
		t.Errorf("Mean(%d numbers) = %g, %g, error %d; expected %g, %g, error %d", len(l), got, variance, e, want, wantVariance, we)
	}
}

func grid(t *testing.T, steps int, want ...float64) {
	t.Helper()
	if got, e := crit.Grid(steps); !slices.Equal(got, want) || e != api.OK {
		t.Errorf("Grid(%d) = %v, error %d; expected %v", steps, got, e, want)
	}
}

// list returns a list of numbers.
func list(l ...float64) []float64 {
	return l
}

// noSteps are numbers that are no numbers of steps.
func noSteps() []int {
	return []int{0, -1, 1001, math.MinInt, math.MaxInt}
}

// noValues are lists that are no values.
func noValues() [][]float64 {
	over := math.Nextafter(great, math.Inf(1))
	lists := [][]float64{nil, {}, make([]float64, api.MaxEdges+2)}
	for _, x := range []float64{math.NaN(), math.Inf(1), math.Inf(-1), over, -over} {
		lists = append(lists, list(x), list(0, x), list(x, 0), list(-1, x, 1))
	}
	return lists
}

// P32.1 to P32.5: the chapter's examples.
func TestExamples(t *testing.T) {
	grid(t, 4, 0, 0.25, 0.5, 0.75, 1)
	if got, e := crit.Grid(0); len(got) != 0 || e != api.ErrArg {
		t.Errorf("Grid(0) = %v, error %d", got, e)
	}
	solve(t, list(0, 0), 0, 1.0/(1<<60), api.OK)
	solve(t, list(0, 1), 2, 0, api.ErrNone)
	solve(t, list(1, 0), 0.5, 0, api.ErrOrder)
	peak(t, list(0, 1, 0), 4, 0.5, api.OK)
	peak(t, list(5), 3, 0, api.OK)
	cross(t, list(0, 1), list(1, 0), 4, 0.5, true, api.OK)
	cross(t, list(0), list(0), 4, 0, false, api.OK)
	mean(t, list(1, 2, 6), 3, 14.0/3, api.OK)
	mean(t, nil, 0, 0, api.ErrArg)
}

// P32.1
func TestGrid(t *testing.T) {
	for _, steps := range noSteps() {
		if got, e := crit.Grid(steps); len(got) != 0 || e != api.ErrArg {
			t.Errorf("Grid(%d) = %v, error %d", steps, got, e)
		}
	}
	for steps := 1; steps <= 1000; steps++ {
		var want []float64
		for i := range steps + 1 {
			want = append(want, float64(i)/float64(steps))
		}
		grid(t, steps, want...)
	}
	grid(t, 1, 0, 1)
	grid(t, 3, 0, 1.0/3, 2.0/3, 1)
}

// P32.2 to P32.5: lists and numbers that are not valid.
func TestRefused(t *testing.T) {
	good := list(0, 1)
	for _, bad := range noValues() {
		solve(t, bad, 0.5, 0, api.ErrArg)
		peak(t, bad, 4, 0, api.ErrArg)
		cross(t, bad, good, 4, 0, false, api.ErrArg)
		cross(t, good, bad, 4, 0, false, api.ErrArg)
		mean(t, bad, 0, 0, api.ErrArg)
	}
	for _, steps := range noSteps() {
		peak(t, good, steps, 0, api.ErrArg)
		cross(t, good, list(1, 0), steps, 0, false, api.ErrArg)
	}
	over := math.Nextafter(great, math.Inf(1))
	for _, target := range []float64{math.NaN(), math.Inf(1), math.Inf(-1), over, -over} {
		solve(t, good, target, 0, api.ErrArg)
		solve(t, list(1, 0), target, 0, api.ErrArg)
	}
	solve(t, list(1, math.NaN(), 0), 5, 0, api.ErrArg)
}

// P32.2
func TestSolve(t *testing.T) {
	solve(t, list(1, 0), 5, 0, api.ErrOrder)
	solve(t, list(0, 2, 1, 3), 1, 0, api.ErrOrder)
	solve(t, list(0, 1, 2, 1), 1, 0, api.ErrOrder)
	solve(t, list(1, 2), math.Nextafter(1, 0), 0, api.ErrNone)
	solve(t, list(1, 2), math.Nextafter(2, 3), 0, api.ErrNone)
	solve(t, list(1, 2), great, 0, api.ErrNone)
	solve(t, list(1, 2), -great, 0, api.ErrNone)
	solve(t, list(3), 4, 0, api.ErrNone)
	solve(t, list(3), 2, 0, api.ErrNone)
	// At the ends, and at the greatest amounts.
	const least = 1.0 / (1 << 60)
	solve(t, list(3), 3, least, api.OK)
	solve(t, list(1, 2), 1, least, api.OK)
	solve(t, list(-great, great), -great, least, api.OK)
	solve(t, list(-great, great), great, 1, api.OK)
	solve(t, list(-great, great), 0, 0.5, api.OK)
	solve(t, list(1, 2), 2, 1, api.OK)
	solve(t, list(0, 0, 0, 1), 0.125, 0.5, api.OK)
	solve(t, list(0, 1), 0.75, 0.75, api.OK)
	solve(t, make([]float64, api.MaxEdges+1), 0, least, api.OK)
	solve(t, list(math.Copysign(0, -1), 0), 0, least, api.OK)
	solve(t, list(0, math.Copysign(0, -1)), 0, least, api.OK)
	solve(t, list(0, 1), math.Copysign(0, -1), least, api.OK)
}

// P32.3
func TestPeak(t *testing.T) {
	peak(t, list(0, 1), 7, 1, api.OK)
	peak(t, list(1, 0), 7, 0, api.OK)
	peak(t, list(2, 2, 2), 5, 0, api.OK)
	// Of several numbers with the greatest average, the first one.
	peak(t, list(0, 1, 0), 1, 0, api.OK)
	peak(t, list(-1, -3, -1), 2, 0, api.OK)
	peak(t, list(-3, -1, -1, -3), 2, 0.5, api.OK)
	peak(t, list(0, 0, 1), 1, 1, api.OK)
	peak(t, list(-great, great), 1000, 1, api.OK)
	peak(t, make([]float64, api.MaxEdges+1), 2, 0, api.OK)
}

// P32.4
func TestCross(t *testing.T) {
	line, half := list(0, 1), list(0.5, 0.5)
	cross(t, line, half, 4, 0.5, true, api.OK)
	cross(t, half, line, 4, 0.5, true, api.OK)
	cross(t, line, list(0.5), 4, 0.5, true, api.OK)
	cross(t, line, half, 3, 2.0/3, true, api.OK)
	cross(t, line, half, 1, 1, true, api.OK)
	cross(t, line, list(0.25), 4, 0.25, true, api.OK)
	// The first number of the grid may be the only one with its sign.
	cross(t, line, list(0), 4, 0.25, true, api.OK)
	cross(t, list(0), line, 1000, 1.0/1000, true, api.OK)
	// At the last number only.
	cross(t, line, list(1), 5, 1, true, api.OK)
	cross(t, line, list(2), 5, 0, false, api.OK)
	cross(t, line, list(-1), 5, 0, false, api.OK)
	cross(t, line, line, 5, 0, false, api.OK)
	cross(t, list(0), list(math.Copysign(0, -1)), 5, 0, false, api.OK)
	cross(t, list(math.Copysign(0, -1), 1), list(0, 1), 5, 0, false, api.OK)
}

// P32.5
func TestMean(t *testing.T) {
	mean(t, list(7), 7, 0, api.OK)
	mean(t, list(-3, 3), 0, 9, api.OK)
	mean(t, list(great, -great), 0, 1<<200, api.OK)
	mean(t, make([]float64, api.MaxEdges+1), 0, 0, api.OK)
	// The sum depends on the order.
	mean(t, list(1<<60, 1, -1<<60), 0, (1<<120+1+1<<120)/3.0, api.OK)
	if got, _, e := crit.Mean(list(1<<60, -1<<60, 1)); got != 1.0/3 || e != api.OK {
		t.Errorf("Mean = %g, error %d", got, e)
	}
}

// R4
func TestMemory(t *testing.T) {
	l := list(0, 1, 5)
	solve(t, l[:2], 0.5, 0.5, api.OK)
	peak(t, l[:2], 2, 1, api.OK)
	cross(t, l[:2], l[:1], 2, 0.5, true, api.OK)
	mean(t, l[:2], 0.5, 0.25, api.OK)
	if !slices.Equal(l, list(0, 1, 5)) {
		t.Errorf("%v", l)
	}
	first, _ := crit.Grid(2)
	first[0] = 9
	grid(t, 2, 0, 0.5, 1)
}
