package minimax_test

import (
	"math"
	"slices"
	"testing"

	"seepage/api"
	"seepage/minimax"
)

const (
	least = math.MinInt64
	most  = math.MaxInt64
)

func edge(u, v int, w int64) api.Edge { return api.Edge{U: u, V: v, W: w} }

func made(t *testing.T, n int, l ...api.Edge) *minimax.Finder {
	t.Helper()
	f, e := minimax.New(n, l)
	if f == nil || e != api.OK {
		t.Fatalf("New(%d, %d edges) = %v, error %d", n, len(l), f, e)
	}
	return f
}

func distance(t *testing.T, f *minimax.Finder, u, v int, want int64, wok bool) {
	t.Helper()
	if got, ok := f.Minimax(u, v); got != want || ok != wok {
		t.Fatalf("Minimax(%d, %d) = %d, %t; expected %d, %t", u, v, got, ok, want, wok)
	}
}

func joined(t *testing.T, f *minimax.Finder, u, v int, theta int64, want bool) {
	t.Helper()
	if got := f.Joined(u, v, theta); got != want {
		t.Fatalf("Joined(%d, %d, %d) = %t", u, v, theta, got)
	}
}

func join(t *testing.T, f *minimax.Finder, u, v, want int, wok bool) {
	t.Helper()
	if got, ok := f.Edge(u, v); got != want || ok != wok {
		t.Fatalf("Edge(%d, %d) = %d, %t; expected %d, %t", u, v, got, ok, want, wok)
	}
}

func path(t *testing.T, f *minimax.Finder, u, v int, want ...int) {
	t.Helper()
	if got := f.Path(u, v); !slices.Equal(got, want) {
		t.Fatalf("Path(%d, %d) = %v, expected %v", u, v, got, want)
	}
}

func farthest(t *testing.T, f *minimax.Finder, u, want int, theta int64, wok bool) {
	t.Helper()
	if v, got, ok := f.Farthest(u); v != want || got != theta || ok != wok {
		t.Fatalf("Farthest(%d) = %d, %d, %t; expected %d, %d, %t", u, v, got, ok, want, theta, wok)
	}
}

func count(t *testing.T, f *minimax.Finder, theta, want int64) {
	t.Helper()
	if got := f.Count(theta); got != want {
		t.Fatalf("Count(%d) = %d, expected %d", theta, got, want)
	}
}

// P20.2 to P20.7: the chapter's examples.
func TestExamples(t *testing.T) {
	f := made(t, 5, edge(0, 1, 4), edge(1, 2, 7), edge(0, 2, 9), edge(2, 3, 7))
	distance(t, f, 0, 2, 7, true)
	distance(t, f, 0, 1, 4, true)
	distance(t, f, 3, 3, least, true)
	distance(t, f, 4, 4, least, true)
	distance(t, f, 0, 4, 0, false)
	join(t, f, 0, 2, 1, true)
	join(t, f, 0, 3, 3, true)
	join(t, f, 3, 0, 3, true)
	join(t, f, 3, 3, 0, false)
	join(t, f, 0, 4, 0, false)
	path(t, f, 0, 3, 0, 1, 3)
	path(t, f, 2, 0, 1, 0)
	path(t, f, 2, 2)
	path(t, f, 2, 4)
	joined(t, f, 0, 2, 6, false)
	joined(t, f, 0, 2, 7, true)
	joined(t, f, 4, 4, -9, true)
	joined(t, f, 4, 4, least, true)
	joined(t, f, 4, 3, most, false)
	farthest(t, f, 0, 2, 7, true)
	farthest(t, f, 2, 0, 7, true)
	farthest(t, f, 3, 0, 7, true)
	farthest(t, f, 4, 0, 0, false)
	count(t, f, 3, 0)
	count(t, f, 4, 1)
	count(t, f, 6, 1)
	count(t, f, 7, 6)
	count(t, f, most, 6)
	count(t, f, least, 0)
}

// P20.1: the errors of graph.New, in its order.
func TestErrors(t *testing.T) {
	for _, c := range []struct {
		n    int
		l    []api.Edge
		want api.Errno
	}{
		{-1, nil, api.ErrArg}, {math.MinInt, nil, api.ErrArg}, {api.MaxVerts + 1, nil, api.ErrArg}, {math.MaxInt, nil, api.ErrArg},
		{-1, []api.Edge{edge(0, 0, 0)}, api.ErrArg}, {2, make([]api.Edge, api.MaxEdges+1), api.ErrArg},
		{2, []api.Edge{edge(0, 2, 0), edge(0, 0, 0)}, api.ErrRange}, {2, []api.Edge{edge(0, 0, 0), edge(0, 2, 0)}, api.ErrLoop},
		{2, []api.Edge{edge(-1, 0, 0)}, api.ErrRange}, {0, []api.Edge{edge(0, 1, 0)}, api.ErrRange},
	} {
		if f, e := minimax.New(c.n, c.l); f != nil || e != c.want {
			t.Errorf("New(%d, %d edges): error %d, expected %d", c.n, len(c.l), e, c.want)
		}
	}
}

// P20.2 to P20.7: weights at the ends of the range, and equal ones.
func TestEnds(t *testing.T) {
	f := made(t, 5, edge(3, 1, least), edge(4, 1, least), edge(4, 0, most), edge(0, 2, 0), edge(2, 0, 0), edge(3, 4, least))
	distance(t, f, 3, 4, least, true)
	joined(t, f, 3, 4, least, true)
	joined(t, f, 0, 2, -1, false)
	joined(t, f, 0, 2, 0, true)
	join(t, f, 3, 4, 1, true)
	join(t, f, 1, 3, 0, true)
	join(t, f, 2, 0, 3, true)
	path(t, f, 3, 4, 0, 1)
	path(t, f, 2, 3, 3, 2, 1, 0)
	distance(t, f, 2, 3, most, true)
	farthest(t, f, 3, 0, most, true)
	farthest(t, f, 2, 1, most, true)
	farthest(t, f, 0, 1, most, true)
	count(t, f, least, 3)
	count(t, f, -1, 3)
	count(t, f, 0, 4)
	count(t, f, most-1, 4)
	count(t, f, most, 10)
	// All distances from 1 are -2^63; the others come by increasing numbers.
	small := made(t, 4, edge(1, 3, least), edge(1, 2, least))
	farthest(t, small, 1, 2, least, true)
	farthest(t, small, 2, 1, least, true)
	farthest(t, small, 0, 0, 0, false)
}

// P20.2 to P20.7: numbers that are no vertices, also if there is an inner node of
// the tree with this number.
func TestNoVertices(t *testing.T) {
	f := made(t, 3, edge(0, 1, 4), edge(1, 2, 7))
	for _, v := range []int{-1, 3, 4, 5, math.MinInt, math.MaxInt} {
		for _, u := range []int{0, 2, v} {
			distance(t, f, u, v, 0, false)
			distance(t, f, v, u, 0, false)
			joined(t, f, u, v, most, false)
			joined(t, f, v, u, most, false)
			join(t, f, u, v, 0, false)
			join(t, f, v, u, 0, false)
			path(t, f, u, v)
			path(t, f, v, u)
		}
		farthest(t, f, v, 0, 0, false)
	}
	none := made(t, 0)
	distance(t, none, 0, 0, 0, false)
	farthest(t, none, 0, 0, 0, false)
	count(t, none, most, 0)
}

// P20.2 to P20.7: as many vertices as there can be.
func TestLargestGraphs(t *testing.T) {
	const n = api.MaxVerts
	var l []api.Edge
	for v := range n - 1 {
		l = append(l, edge(v, v+1, int64(v)))
	}
	f := made(t, n, l...)
	distance(t, f, 0, n-1, n-2, true)
	join(t, f, n-1, 0, n-2, true)
	if got := f.Path(n-1, 0); len(got) != n-1 || got[0] != n-2 || got[n-2] != 0 {
		t.Errorf("Path of %d edges", len(got))
	}
	farthest(t, f, 0, n-1, n-2, true)
	farthest(t, f, n-1, 0, n-2, true)
	count(t, f, most, n*(n-1)/2)
	count(t, f, 9, 11*10/2)
}

// R4
func TestMemory(t *testing.T) {
	l := []api.Edge{edge(0, 1, 4), edge(1, 2, 7), edge(9, 9, 9)}
	f := made(t, 3, l[:2]...)
	clear(l[:2])
	clear(f.Path(0, 2))
	path(t, f, 0, 2, 0, 1)
	distance(t, f, 0, 2, 7, true)
	if l[2] != edge(9, 9, 9) {
		t.Errorf("%v", l)
	}
}

// R2
func TestNotValid(t *testing.T) {
	for _, f := range []*minimax.Finder{nil, {}} {
		for _, v := range []int{-1, 0, 1} {
			distance(t, f, v, v, 0, false)
			distance(t, f, v, 0, 0, false)
			joined(t, f, v, v, most, false)
			join(t, f, v, 0, 0, false)
			path(t, f, v, 0)
			farthest(t, f, v, 0, 0, false)
			count(t, f, most, 0)
		}
	}
}
