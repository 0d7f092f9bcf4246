package tally_test

import (
	"math"
	"slices"
	"testing"

	"seepage/api"
	"seepage/tally"
)

// item is a weight with the number of sets that have it.
type item struct {
	weight int64
	sets   int
}

func made(t *testing.T, weights ...int64) *tally.Tally {
	t.Helper()
	y, e := tally.New(weights)
	if y == nil || e != api.OK {
		t.Fatalf("New(%v) = %v, error %d", weights, y, e)
	}
	return y
}

func even(t *testing.T, n int) *tally.Tally {
	t.Helper()
	y, e := tally.Even(n)
	if y == nil || e != api.OK {
		t.Fatalf("Even(%d) = %v, error %d", n, y, e)
	}
	return y
}

func refused(t *testing.T, weights []int64, want api.Errno) {
	t.Helper()
	if y, e := tally.New(weights); y != nil || e != want {
		t.Errorf("New of %d weights = %v, error %d; expected %d", len(weights), y, e, want)
	}
}

func union(t *testing.T, y *tally.Tally, a, b int, want bool, we api.Errno) {
	t.Helper()
	if got, e := y.Union(a, b); got != want || e != we {
		t.Fatalf("Union(%d, %d) = %t, error %d; expected %t, error %d", a, b, got, e, want, we)
	}
}

func items(y *tally.Tally) []item {
	var l []item
	for w, n := range y.Weights() {
		l = append(l, item{w, n})
	}
	return l
}

// compare compares all that a tally shows with the weights of the elements and
// their labels.
func compare(t *testing.T, y *tally.Tally, weights []int64, labels []int) {
	t.Helper()
	sets := map[int]int64{}
	for i, label := range labels {
		sets[label] += weights[i]
	}
	var largest, squares int64
	var all []int64
	for _, w := range sets {
		largest = max(largest, w)
		squares += w * w
		all = append(all, w)
	}
	if y.Largest() != largest || y.Count() != len(sets) || y.Squares() != squares {
		t.Fatalf("Largest %d, Count %d, Squares %d; expected %d, %d, %d", y.Largest(), y.Count(), y.Squares(), largest, len(sets), squares)
	}
	for i := range labels {
		if y.Weight(i) != sets[labels[i]] {
			t.Fatalf("Weight(%d) = %d, expected %d", i, y.Weight(i), sets[labels[i]])
		}
	}
	slices.Sort(all)
	var want []item
	for _, w := range all {
		if n := len(want); n > 0 && want[n-1].weight == w {
			want[n-1].sets++
		} else {
			want = append(want, item{w, 1})
		}
	}
	if got := items(y); !slices.Equal(got, want) {
		t.Fatalf("Weights %v, expected %v", got, want)
	}
}

// alone are the labels of n elements, each a set of its own.
func alone(n int) []int {
	l := make([]int, n)
	for i := range l {
		l[i] = i
	}
	return l
}

// P10.1
func TestNew(t *testing.T) {
	for _, l := range [][]int64{nil, {}, {0}, {7}, {0, 0, 0}, {3, 0, 4}, {3037000499}, {3037000498, 0, 1}, make([]int64, api.MaxSlots)} {
		compare(t, made(t, l...), l, alone(len(l)))
	}
	most := slices.Repeat([]int64{46340}, api.MaxSlots)
	compare(t, made(t, most...), most, alone(len(most)))
	refused(t, []int64{3037000500}, api.ErrOver)
	refused(t, []int64{3037000499, 1}, api.ErrOver)
	refused(t, []int64{1, 0, 3037000499}, api.ErrOver)
	refused(t, []int64{api.MaxSize}, api.ErrOver)
	refused(t, slices.Repeat([]int64{46341}, api.MaxSlots), api.ErrOver)
	// 2^32 and 2^56 have the square 0 modulo 2^64.
	refused(t, []int64{1 << 32}, api.ErrOver)
	refused(t, slices.Repeat([]int64{api.MaxSize}, api.MaxSlots), api.ErrOver)
	refused(t, []int64{-1}, api.ErrArg)
	refused(t, []int64{5, math.MinInt64}, api.ErrArg)
	refused(t, []int64{api.MaxSize + 1}, api.ErrArg)
	refused(t, []int64{math.MaxInt64, math.MaxInt64}, api.ErrArg)
	refused(t, []int64{3037000500, -1}, api.ErrArg)
	refused(t, make([]int64, api.MaxSlots+1), api.ErrArg)
	refused(t, slices.Repeat([]int64{api.MaxSize}, api.MaxSlots+1), api.ErrArg)
}

// P10.1
func TestEven(t *testing.T) {
	for _, n := range []int{0, 1, 2, 100, api.MaxSlots} {
		compare(t, even(t, n), slices.Repeat([]int64{1}, n), alone(n))
	}
	for _, n := range []int{-1, math.MinInt, api.MaxSlots + 1, math.MaxInt} {
		if y, e := tally.Even(n); y != nil || e != api.ErrArg {
			t.Errorf("Even(%d) = %v, error %d", n, y, e)
		}
	}
}

// P10.2 to P10.4: the chapter's examples.
func TestExamples(t *testing.T) {
	y := made(t, 3, 0, 4)
	if got := items(y); y.Largest() != 4 || y.Count() != 3 || y.Squares() != 25 || !slices.Equal(got, []item{{0, 1}, {3, 1}, {4, 1}}) {
		t.Errorf("Largest %d, Count %d, Squares %d, Weights %v", y.Largest(), y.Count(), y.Squares(), got)
	}
	union(t, y, 0, 2, true, api.OK)
	if y.Weight(2) != 7 || y.Squares() != 49 || y.Count() != 2 {
		t.Errorf("Weight %d, Squares %d, Count %d", y.Weight(2), y.Squares(), y.Count())
	}
	union(t, y, 2, 0, false, api.OK)
	union(t, y, 0, 3, false, api.ErrRange)
	compare(t, y, []int64{3, 0, 4}, []int{0, 1, 0})
	if y := even(t, 0); y.Largest() != 0 || y.Count() != 0 {
		t.Errorf("Largest %d, Count %d", y.Largest(), y.Count())
	}
}

// P10.2, P10.3: numbers that are not elements.
func TestNoElements(t *testing.T) {
	y := made(t, 5, 6)
	for _, i := range []int{-1, 2, math.MinInt, math.MaxInt} {
		union(t, y, i, 0, false, api.ErrRange)
		union(t, y, 0, i, false, api.ErrRange)
		union(t, y, i, i, false, api.ErrRange)
		if y.Weight(i) != 0 {
			t.Errorf("Weight(%d) = %d", i, y.Weight(i))
		}
	}
	union(t, y, 1, 1, false, api.OK)
	compare(t, y, []int64{5, 6}, []int{0, 1})
	union(t, even(t, 0), 0, 0, false, api.ErrRange)
}

// P10.3: sets of the weight 0, and the greatest sum of squares.
func TestEnds(t *testing.T) {
	y := made(t, 0, 0, 3037000499, 0)
	union(t, y, 3, 0, true, api.OK)
	union(t, y, 2, 3, true, api.OK)
	compare(t, y, []int64{0, 0, 3037000499, 0}, []int{0, 1, 0, 0})
	if y.Squares() != 9223372030926249001 {
		t.Errorf("Squares %d", y.Squares())
	}
	y = made(t, 1518500249, 1518500250)
	union(t, y, 0, 1, true, api.OK)
	if y.Squares() != 9223372030926249001 {
		t.Errorf("Squares %d", y.Squares())
	}
}

// P10.4, R7
func TestIterator(t *testing.T) {
	y := made(t, 1, 2, 3, 4, 5)
	seq := y.Weights()
	n := 0
	for range seq {
		if n++; n == 2 {
			break
		}
	}
	var got []item
	for w, sets := range seq {
		got = append(got, item{w, sets})
		y.Union(0, len(got)%5)
	}
	if want := []item{{1, 1}, {2, 1}, {3, 1}, {4, 1}, {5, 1}}; !slices.Equal(got, want) || n != 2 {
		t.Errorf("%v, expected %v; stopped at %d", got, want, n)
	}
	got = nil
	for w, sets := range seq {
		got = append(got, item{w, sets})
	}
	if !slices.Equal(got, []item{{15, 1}}) {
		t.Errorf("%v", got)
	}
}

// P10.4, R8
func TestCopy(t *testing.T) {
	weights := []int64{8, 1, 1, 2}
	y := made(t, weights...)
	union(t, y, 1, 2, true, api.OK)
	c := y.Copy()
	union(t, y, 2, 0, true, api.OK)
	union(t, c, 3, 1, true, api.OK)
	compare(t, y, weights, []int{0, 0, 0, 3})
	compare(t, c, weights, []int{0, 1, 1, 1})
}

// R4
func TestArgumentsAreNotKept(t *testing.T) {
	l := []int64{1, 2, 3, 99}
	y := made(t, l[:3]...)
	clear(l[:3])
	compare(t, y, []int64{1, 2, 3}, alone(3))
	union(t, y, 0, 1, true, api.OK)
	if !slices.Equal(l, []int64{0, 0, 0, 99}) {
		t.Errorf("%v", l)
	}
}

// R2
func TestNotValid(t *testing.T) {
	for _, y := range []*tally.Tally{nil, {}} {
		for _, i := range []int{-1, 0, 1} {
			union(t, y, i, 0, false, api.ErrNil)
			if y.Weight(i) != 0 {
				t.Errorf("Weight %d", y.Weight(i))
			}
		}
		if y.Largest() != 0 || y.Count() != 0 || y.Squares() != 0 || y.Copy() != nil {
			t.Errorf("Largest %d, Count %d, Squares %d, Copy %v", y.Largest(), y.Count(), y.Squares(), y.Copy())
		}
		if seq := y.Weights(); seq == nil || len(items(y)) != 0 {
			t.Errorf("Weights: %v", items(y))
		}
	}
}
