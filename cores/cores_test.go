package cores_test

import (
	"math"
	"slices"
	"testing"

	"seepage/api"
	"seepage/cores"
	"seepage/graph"
)

// made returns a graph, whose edges are given by the pairs of their ends.
func made(t *testing.T, n int, pairs ...[2]int) *graph.Graph {
	t.Helper()
	var l []api.Edge
	for i, pair := range pairs {
		l = append(l, api.Edge{U: pair[0], V: pair[1], W: int64(-i)})
	}
	g, e := graph.New(n, l)
	if g == nil || e != api.OK {
		t.Fatalf("New(%d, %d edges) = %v, error %d", n, len(l), g, e)
	}
	return g
}

// result is all that the package says about a graph.
type result struct {
	order, numbers, shells, colors []int
	degeneracy                     int
	densest                        int
	ratio                          api.Frac
}

func compare(t *testing.T, g *graph.Graph, want result) {
	t.Helper()
	for _, c := range []struct {
		name      string
		got, want []int
	}{
		{"Order", cores.Order(g), want.order}, {"Numbers", cores.Numbers(g), want.numbers},
		{"Shells", cores.Shells(g), want.shells}, {"Colors", cores.Colors(g), want.colors},
	} {
		if !slices.Equal(c.got, c.want) {
			t.Fatalf("%s of %v: %v, expected %v", c.name, g.Edges(), c.got, c.want)
		}
	}
	if got := cores.Degeneracy(g); got != want.degeneracy {
		t.Fatalf("Degeneracy of %v: %d, expected %d", g.Edges(), got, want.degeneracy)
	}
	if k, ratio := cores.Densest(g); k != want.densest || ratio != want.ratio {
		t.Fatalf("Densest of %v: %d, %v; expected %d, %v", g.Edges(), k, ratio, want.densest, want.ratio)
	}
}

func core(t *testing.T, g *graph.Graph, k int, want ...int) {
	t.Helper()
	if got := cores.Core(g, k); !slices.Equal(got, want) {
		t.Fatalf("Core(%d) of %v: %v, expected %v", k, g.Edges(), got, want)
	}
}

// P15.1 to P15.4: the chapter's examples.
func TestExamples(t *testing.T) {
	g := made(t, 5, [2]int{0, 1}, [2]int{1, 2}, [2]int{2, 0}, [2]int{2, 3})
	compare(t, g, result{[]int{4, 3, 0, 1, 2}, []int{2, 2, 2, 1, 0}, []int{1, 1, 3}, []int{2, 1, 0, 1, 0}, 2, 2, api.Frac{N: 1, D: 1}})
	core(t, g, 2, 0, 1, 2)
	core(t, g, 1, 0, 1, 2, 3)
	for _, k := range []int{0, -1, math.MinInt} {
		core(t, g, k, 0, 1, 2, 3, 4)
	}
	core(t, g, 3)
	core(t, g, math.MaxInt)
	pair := made(t, 2, [2]int{0, 1}, [2]int{1, 0}, [2]int{0, 1})
	compare(t, pair, result{[]int{0, 1}, []int{3, 3}, []int{0, 0, 0, 2}, []int{1, 0}, 3, 3, api.Frac{N: 3, D: 2}})
	core(t, pair, 3, 0, 1)
	core(t, pair, 4)
}

// P15.1 to P15.4: no vertices, and no edges.
func TestWithoutEdges(t *testing.T) {
	zero := api.Frac{N: 0, D: 1}
	compare(t, made(t, 0), result{ratio: zero})
	core(t, made(t, 0), 0)
	core(t, made(t, 0), -1)
	compare(t, made(t, 3), result{[]int{0, 1, 2}, []int{0, 0, 0}, []int{3}, []int{0, 0, 0}, 0, 0, zero})
	core(t, made(t, 3), 0, 0, 1, 2)
	core(t, made(t, 3), 1)
}

// P15.1: of vertices with the same degree the smallest one is removed, also if
// others have had this degree for longer.
func TestOrder(t *testing.T) {
	path := made(t, 5, [2]int{4, 2}, [2]int{2, 0}, [2]int{0, 3}, [2]int{3, 1})
	compare(t, path, result{[]int{1, 3, 0, 2, 4}, []int{1, 1, 1, 1, 1}, []int{0, 5}, []int{0, 0, 1, 1, 0}, 1, 1, api.Frac{N: 4, D: 5}})
	star := made(t, 4, [2]int{0, 1}, [2]int{0, 2}, [2]int{3, 0})
	compare(t, star, result{[]int{1, 2, 0, 3}, []int{1, 1, 1, 1}, []int{0, 4}, []int{1, 0, 0, 0}, 1, 1, api.Frac{N: 3, D: 4}})
	// By removing 0, which has 2 edges to 1, 1 gets from the degree 3 to 1.
	tail := made(t, 3, [2]int{1, 0}, [2]int{0, 1}, [2]int{1, 2})
	compare(t, tail, result{[]int{2, 0, 1}, []int{2, 2, 1}, []int{0, 1, 2}, []int{1, 0, 1}, 2, 2, api.Frac{N: 1, D: 1}})
}

// P15.4: the densest core need not be the one with the greatest number, and of
// equal ratios that with the greatest one counts.
func TestDensest(t *testing.T) {
	// Three parallel edges (3 on 2), and a wheel of 8 vertices with a hub and core
	// number 3: it has 14 edges on 8 vertices.
	var pairs [][2]int
	for v := 1; v < 8; v++ {
		pairs = append(pairs, [2]int{0, v}, [2]int{v, v%7 + 1})
	}
	wheel := made(t, 8, pairs...)
	if k, ratio := cores.Densest(wheel); k != 3 || ratio != (api.Frac{N: 7, D: 4}) {
		t.Errorf("Densest: %d, %v", k, ratio)
	}
	pairs = append(pairs, slices.Repeat([][2]int{{8, 9}}, 4)...)
	// The 4-core has 4 edges on 2 vertices, the 3-core 18 on 10.
	if k, ratio := cores.Densest(made(t, 10, pairs...)); k != 4 || ratio != (api.Frac{N: 2, D: 1}) {
		t.Errorf("Densest: %d, %v", k, ratio)
	}
	// A complete graph of 4 vertices has 6 edges on 4; with a star of 12 triangles,
	// all of them with the vertex 4 in common, the 2-core has 42 on 29.
	pairs = [][2]int{{0, 1}, {0, 2}, {0, 3}, {1, 2}, {1, 3}, {2, 3}}
	n := 5
	for range 12 {
		pairs = append(pairs, [2]int{4, n}, [2]int{4, n + 1}, [2]int{n, n + 1})
		n += 2
	}
	if k, ratio := cores.Densest(made(t, n, pairs...)); k != 3 || ratio != (api.Frac{N: 3, D: 2}) {
		t.Errorf("Densest: %d, %v", k, ratio)
	}
	// Vertices with two edges to each of two hubs: the hubs have 3 parallel edges.
	// The 3-core has 3 edges on 2 vertices, the 2-core 3 + 2*20 on 22.
	pairs = [][2]int{{0, 1}, {0, 1}, {0, 1}}
	for v := 2; v < 22; v++ {
		pairs = append(pairs, [2]int{0, v}, [2]int{v, 1})
	}
	if k, ratio := cores.Densest(made(t, 22, pairs...)); k != 2 || ratio != (api.Frac{N: 43, D: 22}) {
		t.Errorf("Densest: %d, %v", k, ratio)
	}
}

// P1, P15.1 to P15.4: as many vertices and edges as there can be.
func TestLargestGraphs(t *testing.T) {
	const n = api.MaxVerts
	var ring, grid [][2]int
	for v := range n {
		ring = append(ring, [2]int{v, (v + 1) % n})
		for _, step := range []int{1, 7, 64, 400} {
			grid = append(grid, [2]int{v, (v + step) % n})
		}
	}
	if got := cores.Order(made(t, n, ring...)); got[0] != 0 || got[1] != 1 || got[n-1] != n-1 {
		t.Errorf("Order: %v", got[:9])
	}
	g := made(t, n, grid...)
	core(t, g, 8, cores.Order(made(t, n))...)
	if k, ratio := cores.Densest(g); k != 8 || ratio != (api.Frac{N: 4, D: 1}) {
		t.Errorf("Densest: %d, %v", k, ratio)
	}
	if got := slices.Max(cores.Colors(g)); got > 8 {
		t.Errorf("%d colors", got+1)
	}
	pair := made(t, n, slices.Repeat([][2]int{{n - 1, 0}}, api.MaxEdges)...)
	if got := cores.Shells(pair); len(got) != api.MaxEdges+1 || got[0] != n-2 || got[api.MaxEdges] != 2 {
		t.Errorf("Shells: %d", len(got))
	}
	if k, ratio := cores.Densest(pair); k != api.MaxEdges || ratio != (api.Frac{N: api.MaxEdges / 2, D: 1}) {
		t.Errorf("Densest: %d, %v", k, ratio)
	}
}

// R4
func TestMemory(t *testing.T) {
	g := made(t, 3, [2]int{0, 1}, [2]int{1, 2})
	want := result{[]int{0, 1, 2}, []int{1, 1, 1}, []int{0, 3}, []int{0, 1, 0}, 1, 1, api.Frac{N: 2, D: 3}}
	clear(cores.Order(g))
	clear(cores.Numbers(g))
	clear(cores.Shells(g))
	clear(cores.Colors(g))
	clear(cores.Core(g, 1))
	compare(t, g, want)
	core(t, g, 1, 0, 1, 2)
}

// R2
func TestNotValid(t *testing.T) {
	for _, g := range []*graph.Graph{nil, {}} {
		compare(t, g, result{})
		if cores.Order(g) != nil || cores.Numbers(g) != nil || cores.Shells(g) != nil || cores.Colors(g) != nil {
			t.Errorf("Order %v, Numbers %v, Shells %v, Colors %v", cores.Order(g), cores.Numbers(g), cores.Shells(g), cores.Colors(g))
		}
		for _, k := range []int{-1, 0, 1} {
			if got := cores.Core(g, k); got != nil {
				t.Errorf("Core(%d): %v", k, got)
			}
		}
	}
}
