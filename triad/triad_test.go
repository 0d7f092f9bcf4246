package triad_test

import (
	"math"
	"slices"
	"testing"

	"seepage/api"
	"seepage/graph"
	"seepage/triad"
)

// made returns a graph, whose edges are given by the pairs of their ends.
func made(t *testing.T, n int, pairs ...[2]int) *graph.Graph {
	t.Helper()
	var l []api.Edge
	for i, pair := range pairs {
		l = append(l, api.Edge{U: pair[0], V: pair[1], W: int64(i)})
	}
	g, e := graph.New(n, l)
	if g == nil || e != api.OK {
		t.Fatalf("New(%d, %d edges) = %v, error %d", n, len(l), g, e)
	}
	return g
}

func list(t *testing.T, g *graph.Graph, most int, want ...[3]int) {
	t.Helper()
	if got := triad.List(g, most); !slices.Equal(got, want) {
		t.Fatalf("List(%d) of %v: %v, expected %v", most, g.Edges(), got, want)
	}
}

func local(t *testing.T, g *graph.Graph, v int, n, d int64, we api.Errno) {
	t.Helper()
	if got, e := triad.Local(g, v); got != (api.Frac{N: n, D: d}) || e != we {
		t.Fatalf("Local(%d) of %v = %v, error %d; expected %d/%d, error %d", v, g.Edges(), got, e, n, d, we)
	}
}

func global(t *testing.T, g *graph.Graph, n, d int64, we api.Errno) {
	t.Helper()
	if got, e := triad.Global(g); got != (api.Frac{N: n, D: d}) || e != we {
		t.Fatalf("Global = %v, error %d; expected %d/%d, error %d", got, e, n, d, we)
	}
}

func common(t *testing.T, g *graph.Graph, u, v int, want ...int) {
	t.Helper()
	if got := triad.Common(g, u, v); !slices.Equal(got, want) {
		t.Fatalf("Common(%d, %d) of %v: %v, expected %v", u, v, g.Edges(), got, want)
	}
}

func counts(t *testing.T, g *graph.Graph, want int64, at ...int64) {
	t.Helper()
	if got := triad.Count(g); got != want {
		t.Fatalf("Count of %v: %d, expected %d", g.Edges(), got, want)
	}
	for v := range at {
		if got := triad.At(g, v); got != at[v] {
			t.Fatalf("At(%d) of %v: %d, expected %d", v, g.Edges(), got, at[v])
		}
	}
}

// strange are numbers that are no vertices of a small graph.
var strange = []int{-1, 9, math.MinInt, math.MaxInt}

// P16.1 to P16.5: the chapter's examples.
func TestExamples(t *testing.T) {
	g := made(t, 5, [2]int{0, 1}, [2]int{1, 2}, [2]int{2, 0}, [2]int{2, 3}, [2]int{2, 0}, [2]int{3, 4})
	counts(t, g, 1, 1, 1, 1, 0, 0)
	list(t, g, 5, [3]int{0, 1, 2})
	local(t, g, 0, 1, 1, api.OK)
	local(t, g, 2, 1, 3, api.OK)
	local(t, g, 3, 0, 1, api.OK)
	local(t, g, 4, 0, 1, api.OK)
	local(t, g, 5, 0, 0, api.ErrRange)
	global(t, g, 1, 2, api.OK)
	common(t, g, 0, 1, 2)
	common(t, g, 2, 4, 3)
	common(t, g, 2, 2, 0, 1, 3)
	common(t, g, 0, 4)
	for _, v := range strange {
		if triad.At(g, v) != 0 {
			t.Errorf("At(%d) = %d", v, triad.At(g, v))
		}
		local(t, g, v, 0, 0, api.ErrRange)
		common(t, g, v, 2)
		common(t, g, 2, v)
		common(t, g, v, v)
	}
}

// P16.1 to P16.4: graphs without triangles.
func TestWithoutTriangles(t *testing.T) {
	counts(t, made(t, 0), 0)
	list(t, made(t, 0), 1)
	global(t, made(t, 0), 0, 1, api.OK)
	local(t, made(t, 0), 0, 0, 0, api.ErrRange)
	// Parallel edges alone are neither a triangle, nor a pair of neighbours.
	pair := made(t, 3, [2]int{0, 1}, [2]int{1, 0}, [2]int{0, 1})
	counts(t, pair, 0, 0, 0, 0)
	global(t, pair, 0, 1, api.OK)
	local(t, pair, 0, 0, 1, api.OK)
	local(t, pair, 2, 0, 1, api.OK)
	square := made(t, 4, [2]int{0, 1}, [2]int{1, 2}, [2]int{2, 3}, [2]int{3, 0})
	counts(t, square, 0, 0, 0, 0, 0)
	list(t, square, math.MaxInt)
	global(t, square, 0, 1, api.OK)
	local(t, square, 1, 0, 1, api.OK)
	common(t, square, 0, 2, 1, 3)
	common(t, square, 0, 1)
}

// P16.2: at most so many triangles.
func TestList(t *testing.T) {
	// A complete graph of 4 vertices, and a triangle with one of its edges.
	g := made(t, 5, [2]int{3, 2}, [2]int{2, 1}, [2]int{0, 3}, [2]int{1, 3}, [2]int{2, 0}, [2]int{1, 0}, [2]int{4, 1}, [2]int{2, 4}, [2]int{1, 2})
	all := [][3]int{{0, 1, 2}, {0, 1, 3}, {0, 2, 3}, {1, 2, 3}, {1, 2, 4}}
	for most := range len(all) + 1 {
		list(t, g, most, all[:most]...)
	}
	for _, most := range []int{6, math.MaxInt} {
		list(t, g, most, all...)
	}
	for _, most := range []int{0, -1, math.MinInt} {
		list(t, g, most)
	}
	counts(t, g, 5, 3, 4, 4, 3, 1)
	local(t, g, 1, 2, 3, api.OK)
	local(t, g, 4, 1, 1, api.OK)
	// 15 of 3 + 6 + 6 + 3 + 1 pairs.
	global(t, g, 15, 19, api.OK)
}

// complete returns the edges between all of n vertices.
func complete(n int) [][2]int {
	var pairs [][2]int
	for v := range n {
		for u := range v {
			pairs = append(pairs, [2]int{v, u})
		}
	}
	return pairs
}

// P1, P16.1 to P16.5: as many vertices and edges as there can be.
func TestLargestGraphs(t *testing.T) {
	const n = 181
	g := made(t, api.MaxVerts, complete(n)...)
	if got := triad.Count(g); got != n*(n-1)*(n-2)/6 {
		t.Errorf("Count %d", got)
	}
	if got := triad.At(g, n-1); got != (n-1)*(n-2)/2 {
		t.Errorf("At %d", got)
	}
	if got := triad.List(g, 3); !slices.Equal(got, [][3]int{{0, 1, 2}, {0, 1, 3}, {0, 1, 4}}) {
		t.Errorf("List %v", got)
	}
	global(t, g, 1, 1, api.OK)
	local(t, g, n, 0, 1, api.OK)
	if got := triad.Common(g, 5, n-1); len(got) != n-2 {
		t.Errorf("Common %v", got)
	}
	// Four hubs that are connected with each other, and with all other vertices.
	pairs := complete(4)
	for v := 4; v < api.MaxVerts; v++ {
		for hub := range 4 {
			pairs = append(pairs, [2]int{hub, v})
		}
	}
	hubs := made(t, api.MaxVerts, pairs...)
	const leaves = api.MaxVerts - 4
	if got := triad.Count(hubs); got != 4+6*leaves {
		t.Errorf("Count %d", got)
	}
	if got := triad.At(hubs, 3); got != 3+3*leaves {
		t.Errorf("At %d", got)
	}
	local(t, hubs, 4, 1, 1, api.OK)
}

// R4
func TestMemory(t *testing.T) {
	g := made(t, 4, complete(4)...)
	clear(triad.List(g, 9))
	clear(triad.Common(g, 0, 1))
	clear(triad.Common(g, 0, 0))
	list(t, g, 9, [3]int{0, 1, 2}, [3]int{0, 1, 3}, [3]int{0, 2, 3}, [3]int{1, 2, 3})
	common(t, g, 0, 1, 2, 3)
	common(t, g, 0, 0, 1, 2, 3)
}

// R2
func TestNotValid(t *testing.T) {
	for _, g := range []*graph.Graph{nil, {}} {
		global(t, g, 0, 0, api.ErrNil)
		for _, v := range append(strange, 0, 1) {
			local(t, g, v, 0, 0, api.ErrNil)
			if triad.At(g, v) != 0 || triad.Common(g, v, 0) != nil || triad.List(g, v) != nil {
				t.Errorf("At %d, Common %v, List %v", triad.At(g, v), triad.Common(g, v, 0), triad.List(g, v))
			}
		}
		if triad.Count(g) != 0 {
			t.Errorf("Count %d", triad.Count(g))
		}
	}
}
