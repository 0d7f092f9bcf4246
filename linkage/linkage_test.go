package linkage_test

import (
	"math"
	"slices"
	"testing"

	"seepage/api"
	"seepage/linkage"
)

var methods = []api.Method{api.Single, api.Complete, api.Average}

func edge(u, v int, w int64) api.Edge { return api.Edge{U: u, V: v, W: w} }

func merge(a, b int, n, d int64, size int) api.Merge {
	return api.Merge{A: a, B: b, Height: api.Frac{N: n, D: d}, Size: size}
}

// matrix returns the matrix of n points whose distances are those of the pairs 0-1,
// 0-2 .. 1-2 .., in this order.
func matrix(n int, distances ...int64) []int64 {
	d := make([]int64, n*n)
	k := 0
	for i := range n {
		for j := i + 1; j < n; j++ {
			d[i*n+j], d[j*n+i] = distances[k], distances[k]
			k++
		}
	}
	return d
}

func run(t *testing.T, n int, d []int64, m api.Method, want []api.Merge, we api.Errno) {
	t.Helper()
	if got, e := linkage.Run(n, d, m); !slices.Equal(got, want) || e != we {
		t.Fatalf("Run(%d, %v, %d) = %v, error %d; expected %v, error %d", n, d, m, got, e, want, we)
	}
}

func between(t *testing.T, n int, d []int64, m api.Method, a, b []int, want api.Frac, we api.Errno) {
	t.Helper()
	if got, e := linkage.Between(n, d, m, a, b); got != want || e != we {
		t.Fatalf("Between(%d, %v, %d, %v, %v) = %v, error %d; expected %v, error %d", n, d, m, a, b, got, e, want, we)
	}
}

func labels(t *testing.T, n int, l []api.Merge, count int, want []int, we api.Errno) {
	t.Helper()
	if got, e := linkage.Labels(n, l, count); !slices.Equal(got, want) || e != we {
		t.Fatalf("Labels(%d, %v, %d) = %v, error %d; expected %v, error %d", n, l, count, got, e, want, we)
	}
}

func distances(t *testing.T, n int, l []api.Edge, want []int64, we api.Errno) {
	t.Helper()
	if got, e := linkage.Matrix(n, l); !slices.Equal(got, want) || e != we {
		t.Fatalf("Matrix(%d, %d edges) = %v, error %d; expected %v, error %d", n, len(l), got, e, want, we)
	}
}

// four are the distances of the chapter's example.
var four = matrix(4, 2, 6, 10, 5, 9, 4)

// P23.2 to P23.5: the chapter's examples.
func TestExamples(t *testing.T) {
	first := []api.Merge{merge(0, 1, 2, 1, 2), merge(2, 3, 4, 1, 2)}
	single := append(slices.Clone(first), merge(0, 2, 5, 1, 4))
	run(t, 4, four, api.Single, single, api.OK)
	run(t, 4, four, api.Complete, append(slices.Clone(first), merge(0, 2, 10, 1, 4)), api.OK)
	run(t, 4, four, api.Average, append(slices.Clone(first), merge(0, 2, 15, 2, 4)), api.OK)
	between(t, 4, four, api.Average, []int{0, 1}, []int{2}, api.Frac{N: 11, D: 2}, api.OK)
	between(t, 4, four, api.Single, []int{0, 1}, []int{2}, api.Frac{N: 5, D: 1}, api.OK)
	between(t, 4, four, api.Complete, []int{2}, []int{1, 0}, api.Frac{N: 6, D: 1}, api.OK)
	labels(t, 4, single, 2, []int{0, 0, 2, 2}, api.OK)
	labels(t, 4, single, 0, []int{0, 1, 2, 3}, api.OK)
	labels(t, 4, single, 1, []int{0, 0, 2, 3}, api.OK)
	labels(t, 4, single, 3, []int{0, 0, 0, 0}, api.OK)
	for _, m := range methods {
		run(t, 3, matrix(3, 1, 1, 1), m, []api.Merge{merge(0, 1, 1, 1, 2), merge(0, 2, 1, 1, 3)}, api.OK)
	}
	distances(t, 3, []api.Edge{edge(0, 1, 5), edge(1, 2, 3)}, []int64{0, 5, 5, 5, 0, 3, 5, 3, 0}, api.OK)
}

// P23.1 to P23.3: what is wrong with a matrix, and in which order it is said.
func TestCheck(t *testing.T) {
	change := func(n int, at int, to int64) []int64 {
		d := slices.Repeat([]int64{1}, n*n)
		for i := range n {
			d[i*n+i] = 0
		}
		d[at] = to
		return d
	}
	for i, c := range []struct {
		n    int
		d    []int64
		want api.Errno
	}{
		{0, nil, api.OK}, {1, []int64{0}, api.OK}, {2, []int64{0, 7, 7, 0}, api.OK}, {2, []int64{0, api.MaxSize, api.MaxSize, 0}, api.OK}, {2, make([]int64, 4), api.OK},
		{128, make([]int64, 128*128), api.OK}, {129, make([]int64, 129*129), api.ErrArg}, {-1, []int64{0}, api.ErrArg}, {-1, nil, api.ErrArg},
		{math.MinInt, nil, api.ErrArg}, {math.MaxInt, nil, api.ErrArg}, {1 << 32, nil, api.ErrArg},
		{0, []int64{0}, api.ErrArg}, {1, nil, api.ErrArg}, {2, []int64{0, 7, 7}, api.ErrArg}, {2, []int64{0, 7, 7, 0, 0}, api.ErrArg}, {2, []int64{0, 0}, api.ErrArg},
		{1, []int64{1}, api.ErrArg}, {1, []int64{-1}, api.ErrArg}, {2, []int64{0, 7, 8, 0}, api.ErrArg}, {2, []int64{0, 7, 7, 1}, api.ErrArg},
		{3, change(3, 0, 1), api.ErrArg}, {3, change(3, 4, 1), api.ErrArg}, {3, change(3, 8, 1), api.ErrArg},
		{3, change(3, 1, 2), api.ErrArg}, {3, change(3, 2, 2), api.ErrArg}, {3, change(3, 3, 2), api.ErrArg}, {3, change(3, 5, 2), api.ErrArg}, {3, change(3, 6, 2), api.ErrArg}, {3, change(3, 7, 0), api.ErrArg},
		{2, []int64{0, -1, -1, 0}, api.ErrRange}, {2, []int64{0, api.MaxSize + 1, api.MaxSize + 1, 0}, api.ErrRange},
		{2, []int64{0, math.MinInt64, math.MinInt64, 0}, api.ErrRange}, {2, []int64{0, math.MaxInt64, math.MaxInt64, 0}, api.ErrRange},
		{3, matrix(3, -1, 1, 1), api.ErrRange}, {3, matrix(3, 1, 1, -1), api.ErrRange},
		{2, []int64{0, -1, 1, 0}, api.ErrArg}, {3, []int64{0, -1, 1, -1, 0, 1, 1, 1, 9}, api.ErrArg}, {3, []int64{0, -1, 1, -1, 0, 1, 1, 2, 0}, api.ErrArg},
	} {
		if e := linkage.Check(c.n, c.d); e != c.want {
			t.Errorf("%d: Check = %d, expected %d", i, e, c.want)
		}
		for _, m := range methods {
			if c.want != api.OK {
				run(t, c.n, c.d, m, nil, c.want)
				for _, set := range [][]int{nil, {0}, {-1}} {
					between(t, c.n, c.d, m, set, nil, api.Frac{}, c.want)
					between(t, c.n, c.d, m, []int{1}, set, api.Frac{}, c.want)
				}
			} else if got, e := linkage.Run(c.n, c.d, m); len(got) != max(0, c.n-1) || e != api.OK {
				t.Errorf("%d: Run: %d merges, error %d", i, len(got), e)
			}
		}
		for _, m := range []api.Method{0, 4, -1, math.MaxInt, math.MinInt} {
			run(t, c.n, c.d, m, nil, api.ErrArg)
			between(t, c.n, c.d, m, []int{0}, []int{-1}, api.Frac{}, api.ErrArg)
		}
	}
}

// P23.3: sets that are not possible.
func TestBetween(t *testing.T) {
	for _, m := range methods {
		for _, i := range []int{-1, 4, 128, math.MinInt, math.MaxInt} {
			between(t, 4, four, m, []int{i}, []int{0}, api.Frac{}, api.ErrRange)
			between(t, 4, four, m, []int{0}, []int{1, i}, api.Frac{}, api.ErrRange)
			between(t, 4, four, m, []int{0, 0}, []int{i}, api.Frac{}, api.ErrRange)
			between(t, 4, four, m, nil, []int{i}, api.Frac{}, api.ErrRange)
			between(t, 4, four, m, []int{0, i}, nil, api.Frac{}, api.ErrRange)
		}
		for _, c := range [][2][]int{{nil, {0}}, {{0}, nil}, {nil, nil}, {{0}, {0}}, {{0, 1}, {2, 1}}, {{0, 0}, {1}}, {{1}, {0, 2, 0}}, {{0, 1, 2, 3}, {3}}, {slices.Repeat([]int{2}, 999), {1}}} {
			between(t, 4, four, m, c[0], c[1], api.Frac{}, api.ErrArg)
		}
		between(t, 0, nil, m, nil, nil, api.Frac{}, api.ErrArg)
		between(t, 0, nil, m, []int{0}, nil, api.Frac{}, api.ErrRange)
		between(t, 2, make([]int64, 4), m, []int{1}, []int{0}, api.Frac{N: 0, D: 1}, api.OK)
	}
	between(t, 4, four, api.Single, []int{1, 3}, []int{2, 0}, api.Frac{N: 2, D: 1}, api.OK)
	between(t, 4, four, api.Complete, []int{1, 3}, []int{2, 0}, api.Frac{N: 10, D: 1}, api.OK)
	between(t, 4, four, api.Average, []int{3, 1}, []int{2, 0}, api.Frac{N: 21, D: 4}, api.OK)
}

// P23.4: merges that are not possible.
func TestLabels(t *testing.T) {
	good := []api.Merge{merge(1, 3, 9, 0, 2), merge(0, 2, -5, 7, 2), merge(0, 1, 0, 0, 4)}
	labels(t, 5, good, 3, []int{0, 0, 0, 0, 4}, api.OK)
	labels(t, 5, good, 2, []int{0, 1, 0, 1, 4}, api.OK)
	labels(t, 5, good, 1, []int{0, 1, 2, 1, 4}, api.OK)
	labels(t, 5, append(good, merge(0, 4, 1, 1, 5)), 4, make([]int, 5), api.OK)
	for _, count := range []int{-1, 4, math.MinInt, math.MaxInt} {
		labels(t, 5, good, count, nil, api.ErrRange)
	}
	labels(t, 0, nil, 0, nil, api.OK)
	labels(t, 0, nil, 1, nil, api.ErrRange)
	labels(t, 128, nil, 0, identity(128), api.OK)
	for _, n := range []int{-1, 129, math.MinInt, math.MaxInt} {
		labels(t, n, nil, 0, nil, api.ErrArg)
		labels(t, n, good, 9, nil, api.ErrArg)
	}
	for _, bad := range []api.Merge{
		merge(0, 3, 1, 1, 5), merge(1, 4, 1, 1, 3), merge(2, 4, 1, 1, 2), merge(0, 2, 1, 1, 5), merge(0, 4, 1, 1, 4), merge(0, 4, 1, 1, 6), merge(0, 4, 1, 1, 0), merge(0, 4, 1, 1, -5),
		merge(4, 0, 1, 1, 5), merge(0, 0, 1, 1, 8), merge(4, 4, 1, 1, 2), merge(0, 5, 1, 1, 5), merge(0, 5, 1, 1, 4), merge(-1, 0, 1, 1, 5), merge(-1, 4, 1, 1, 1), merge(5, 6, 1, 1, 0),
		merge(0, 127, 1, 1, 4), merge(0, 128, 1, 1, 5), merge(math.MinInt, 0, 1, 1, 5), merge(0, math.MaxInt, 1, 1, 5),
	} {
		l := append(slices.Clone(good), bad)
		for _, count := range []int{0, 3, 4, 5, -1} {
			labels(t, 5, l, count, nil, api.ErrArg)
		}
	}
	labels(t, 2, slices.Repeat([]api.Merge{merge(0, 1, 1, 1, 2)}, 2), 1, nil, api.ErrArg)
	labels(t, 128, []api.Merge{merge(0, 128, 1, 1, 2)}, 0, nil, api.ErrArg)
	labels(t, 128, []api.Merge{merge(0, 127, 1, 1, 2)}, 0, identity(128), api.OK)
	labels(t, 0, good[:1], 0, nil, api.ErrArg)
	labels(t, 3, good[:1], 0, nil, api.ErrArg)
	labels(t, 4, good[:1], 0, identity(4), api.OK)
}

func identity(n int) []int {
	var l []int
	for i := range n {
		l = append(l, i)
	}
	return l
}

// P23.5: the errors in their order.
func TestMatrix(t *testing.T) {
	distances(t, 0, nil, nil, api.OK)
	distances(t, 1, nil, []int64{0}, api.OK)
	distances(t, 2, nil, nil, api.ErrNone)
	distances(t, 3, []api.Edge{edge(0, 2, 1)}, nil, api.ErrNone)
	distances(t, 4, []api.Edge{edge(0, 2, 1), edge(1, 3, 1)}, nil, api.ErrNone)
	distances(t, 2, []api.Edge{edge(0, 1, api.MaxSize), edge(1, 0, api.MaxSize)}, []int64{0, api.MaxSize, api.MaxSize, 0}, api.OK)
	distances(t, 2, []api.Edge{edge(1, 0, 0)}, make([]int64, 4), api.OK)
	for _, w := range []int64{-1, api.MaxSize + 1, math.MinInt64, math.MaxInt64} {
		distances(t, 2, []api.Edge{edge(0, 1, 3), edge(0, 1, w)}, nil, api.ErrRange)
		distances(t, 3, []api.Edge{edge(0, 1, w)}, nil, api.ErrRange)
		distances(t, 3, []api.Edge{edge(0, 1, w), edge(1, 1, 0)}, nil, api.ErrLoop)
	}
	for _, n := range []int{129, api.MaxVerts + 1, math.MaxInt} {
		distances(t, n, nil, nil, api.ErrArg)
		distances(t, n, []api.Edge{edge(0, 0, 1)}, nil, api.ErrArg)
	}
	distances(t, -1, []api.Edge{edge(0, 0, 1)}, nil, api.ErrArg)
	distances(t, math.MinInt, nil, nil, api.ErrArg)
	distances(t, 2, make([]api.Edge, api.MaxEdges+1), nil, api.ErrArg)
	distances(t, 2, []api.Edge{edge(0, 2, -1), edge(0, 0, 1)}, nil, api.ErrRange)
	distances(t, 2, []api.Edge{edge(0, 0, -1), edge(0, 2, 1)}, nil, api.ErrLoop)
	distances(t, 128, nil, nil, api.ErrNone)
}

// P1, P23.2, P23.5: as many points and as great distances as there can be.
func TestLargest(t *testing.T) {
	const n = 128
	d := slices.Repeat([]int64{api.MaxSize}, n*n)
	for i := range n {
		d[i*n+i] = 0
	}
	for _, m := range methods {
		got, e := linkage.Run(n, d, m)
		if len(got) != n-1 || e != api.OK {
			t.Fatalf("Run: %d merges, error %d", len(got), e)
		}
		for i, x := range got {
			if x != merge(0, i+1, api.MaxSize, 1, i+2) {
				t.Fatalf("Run: merge %d is %v", i, x)
			}
		}
	}
	// Two halves that differ in one distance: the average is just below 2^40, and the
	// products of sums and sizes do not fit in 64 bits.
	for i := range n / 2 {
		for j := range n / 2 {
			d[i*n+j], d[(i+n/2)*n+j+n/2] = 0, 0
		}
	}
	d[n-1], d[(n-1)*n] = api.MaxSize-1, api.MaxSize-1
	got, _ := linkage.Run(n, d, api.Average)
	if last := got[n-2]; last != merge(0, n/2, api.MaxSize*(n*n/4)-1, n*n/4, n) {
		t.Errorf("Run: the last merge is %v", last)
	}
	var l []api.Edge
	for i := range n - 1 {
		l = append(l, edge(i, i+1, int64(i)))
	}
	path, e := linkage.Matrix(n, l)
	if e != api.OK || path[n-1] != n-2 || path[n] != 0 || path[n*n-2] != n-2 {
		t.Errorf("Matrix: %d, error %d", path[n-1], e)
	}
}

// P23.2: equal distances, of which the first pair in the order is taken.
func TestEqualDistances(t *testing.T) {
	// The pairs 1-2 and 0-3 are nearest.
	d := matrix(4, 5, 5, 2, 2, 5, 5)
	for _, m := range methods {
		run(t, 4, d, m, []api.Merge{merge(0, 3, 2, 1, 2), merge(1, 2, 2, 1, 2), merge(0, 1, 5, 1, 4)}, api.OK)
	}
	// With Average, 0 1 and 2 have the distance 6/2, and 3 and 4 the distance 3.
	d = matrix(5, 1, 2, 9, 9, 4, 9, 9, 9, 9, 3)
	run(t, 5, d, api.Average, []api.Merge{merge(0, 1, 1, 1, 2), merge(0, 2, 3, 1, 3), merge(3, 4, 3, 1, 2), merge(0, 3, 9, 1, 5)}, api.OK)
}

// R4
func TestMemory(t *testing.T) {
	d := append(slices.Clone(four), 99)
	a, b := []int{0, 1, 99}, []int{2, 99}
	got, _ := linkage.Run(4, d[:16], api.Average)
	between(t, 4, d[:16], api.Average, a[:2], b[:1], api.Frac{N: 11, D: 2}, api.OK)
	l, _ := linkage.Labels(4, got[:2], 2)
	clear(append(l, 1))
	if !slices.Equal(d, append(slices.Clone(four), 99)) || !slices.Equal(a, []int{0, 1, 99}) || !slices.Equal(b, []int{2, 99}) {
		t.Errorf("%v, %v, %v", d, a, b)
	}
	if got[2] != merge(0, 2, 15, 2, 4) {
		t.Errorf("%v", got)
	}
}
