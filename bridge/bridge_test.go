package bridge_test

import (
	"math"
	"slices"
	"testing"

	"seepage/api"
	"seepage/bridge"
	"seepage/graph"
)

// made returns a graph, whose edges are given by the pairs of their ends.
func made(t *testing.T, n int, pairs ...[2]int) *graph.Graph {
	t.Helper()
	var l []api.Edge
	for i, pair := range pairs {
		l = append(l, api.Edge{U: pair[0], V: pair[1], W: int64(i % 3)})
	}
	g, e := graph.New(n, l)
	if g == nil || e != api.OK {
		t.Fatalf("New(%d, %d edges) = %v, error %d", n, len(l), g, e)
	}
	return g
}

// result is all that the package says about a graph.
type result struct {
	bridges, cuts, labels []int
	blocks                [][]int
}

func compare(t *testing.T, g *graph.Graph, want result) {
	t.Helper()
	if got := bridge.Bridges(g); !slices.Equal(got, want.bridges) {
		t.Fatalf("Bridges of %v: %v, expected %v", g.Edges(), got, want.bridges)
	}
	if got := bridge.Cuts(g); !slices.Equal(got, want.cuts) {
		t.Fatalf("Cuts of %v: %v, expected %v", g.Edges(), got, want.cuts)
	}
	if got := bridge.Labels(g); !slices.Equal(got, want.labels) {
		t.Fatalf("Labels of %v: %v, expected %v", g.Edges(), got, want.labels)
	}
	if got := bridge.Blocks(g); !slices.EqualFunc(got, want.blocks, slices.Equal) {
		t.Fatalf("Blocks of %v: %v, expected %v", g.Edges(), got, want.blocks)
	}
}

func cycle(t *testing.T, g *graph.Graph, edge int, want ...int) {
	t.Helper()
	if got := bridge.Cycle(g, edge); !slices.Equal(got, want) {
		t.Errorf("Cycle(%d) of %v: %v, expected %v", edge, g.Edges(), got, want)
	}
}

// P14.1 to P14.4: the chapter's examples.
func TestExamples(t *testing.T) {
	g := made(t, 6, [2]int{0, 1}, [2]int{1, 2}, [2]int{2, 0}, [2]int{2, 3}, [2]int{3, 4}, [2]int{4, 3})
	compare(t, g, result{[]int{3}, []int{2, 3}, []int{0, 0, 0, 3, 3, 5}, [][]int{{0, 1, 2}, {3}, {4, 5}}})
	cycle(t, g, 0, 0, 2, 1)
	cycle(t, g, 1, 1, 0, 2)
	cycle(t, g, 2, 2, 1, 0)
	cycle(t, g, 3)
	cycle(t, g, 4, 4, 5)
	cycle(t, g, 5, 5, 4)
	for _, edge := range []int{-1, 6, math.MinInt, math.MaxInt} {
		cycle(t, g, edge)
	}
}

// P14.1 to P14.3: graphs of which everything is known.
func TestShapes(t *testing.T) {
	compare(t, made(t, 0), result{})
	compare(t, made(t, 1), result{labels: []int{0}})
	compare(t, made(t, 3), result{labels: []int{0, 1, 2}})
	compare(t, made(t, 2, [2]int{1, 0}), result{[]int{0}, nil, []int{0, 1}, [][]int{{0}}})
	compare(t, made(t, 2, [2]int{1, 0}, [2]int{0, 1}, [2]int{1, 0}), result{nil, nil, []int{0, 0}, [][]int{{0, 1, 2}}})
	path := made(t, 4, [2]int{2, 3}, [2]int{3, 0}, [2]int{0, 1})
	compare(t, path, result{[]int{0, 1, 2}, []int{0, 3}, []int{0, 1, 2, 3}, [][]int{{0}, {1}, {2}}})
	star := made(t, 4, [2]int{0, 3}, [2]int{1, 3}, [2]int{3, 2})
	compare(t, star, result{[]int{0, 1, 2}, []int{3}, []int{0, 1, 2, 3}, [][]int{{0}, {1}, {2}}})
	// Two triangles with the vertex 1 in common, which have one label, but are two blocks.
	bow := made(t, 5, [2]int{4, 1}, [2]int{1, 0}, [2]int{3, 4}, [2]int{0, 2}, [2]int{3, 1}, [2]int{2, 1})
	compare(t, bow, result{nil, []int{1}, []int{0, 0, 0, 0, 0}, [][]int{{0, 2, 4}, {1, 3, 5}}})
	// Two squares with a common edge, and a vertex that hangs on it.
	ladder := made(t, 7, [2]int{5, 6}, [2]int{0, 1}, [2]int{1, 2}, [2]int{2, 3}, [2]int{3, 0}, [2]int{2, 4}, [2]int{4, 5}, [2]int{5, 3})
	compare(t, ladder, result{[]int{0}, []int{5}, []int{0, 0, 0, 0, 0, 0, 6}, [][]int{{0}, {1, 2, 3, 4, 5, 6, 7}}})
}

// P14.4: the path leads from U to V, and is the first one of the shortest paths.
func TestCycle(t *testing.T) {
	// Two paths of two edges lead from 0 to 3, one by edges 1 and 4, one by 2 and 3.
	g := made(t, 4, [2]int{0, 3}, [2]int{0, 1}, [2]int{2, 0}, [2]int{2, 3}, [2]int{3, 1}, [2]int{1, 0})
	cycle(t, g, 0, 0, 1, 4)
	g = made(t, 4, [2]int{3, 0}, [2]int{0, 1}, [2]int{2, 0}, [2]int{2, 3}, [2]int{3, 1}, [2]int{1, 0})
	cycle(t, g, 0, 0, 3, 2)
	cycle(t, g, 1, 1, 5)
	cycle(t, g, 5, 5, 1)
	cycle(t, g, 4, 4, 0, 1)
	// The first edge at 0 does not lead to 3 on a shortest path.
	g = made(t, 5, [2]int{0, 4}, [2]int{4, 1}, [2]int{1, 3}, [2]int{3, 0}, [2]int{0, 2}, [2]int{2, 3})
	cycle(t, g, 3, 3, 5, 4)
	cycle(t, g, 0, 0, 3, 2, 1)
}

// P14.1, P14.2, P14.4: an edge whose index and weight do not matter.
func TestWeightsDoNotMatter(t *testing.T) {
	l := []api.Edge{{U: 0, V: 1, W: math.MaxInt64}, {U: 1, V: 2, W: math.MinInt64}, {U: 0, V: 2, W: -1}, {U: 3, V: 2, W: 0}}
	g, _ := graph.New(4, l)
	compare(t, g, result{[]int{3}, []int{2}, []int{0, 0, 0, 3}, [][]int{{0, 1, 2}, {3}}})
	cycle(t, g, 1, 1, 0, 2)
}

// P1, P14.1 to P14.4: as many vertices and edges as there can be.
func TestLargestGraphs(t *testing.T) {
	const n = api.MaxVerts
	var ring, path [][2]int
	for v := range n {
		ring = append(ring, [2]int{v, (v + 1) % n})
	}
	path = ring[:n-1]
	labels, blocks := make([]int, n), make([][]int, n-1)
	for v := range n {
		labels[v] = v
	}
	for i := range n - 1 {
		blocks[i] = []int{i}
	}
	compare(t, made(t, n, path...), result{labels[:n-1], labels[1 : n-1], labels, blocks})
	cycle(t, made(t, n, path...), n/2)
	compare(t, made(t, n, ring...), result{nil, nil, make([]int, n), [][]int{labels}})
	if got := bridge.Cycle(made(t, n, ring...), n-1); len(got) != n || got[0] != n-1 || got[1] != n-2 || got[n-1] != 0 {
		t.Errorf("Cycle: %d edges", len(got))
	}
	pair := made(t, n, slices.Repeat([][2]int{{n - 1, 0}}, api.MaxEdges)...)
	if got := bridge.Blocks(pair); len(got) != 1 || len(got[0]) != api.MaxEdges {
		t.Errorf("Blocks: %d", len(got))
	}
	cycle(t, pair, 0, 0, 1)
	cycle(t, pair, api.MaxEdges-1, api.MaxEdges-1, 0)
}

// R4
func TestMemory(t *testing.T) {
	g := made(t, 4, [2]int{0, 1}, [2]int{1, 2}, [2]int{2, 3}, [2]int{3, 2})
	want := result{[]int{0, 1}, []int{1, 2}, []int{0, 1, 2, 2}, [][]int{{0}, {1}, {2, 3}}}
	clear(bridge.Bridges(g))
	clear(bridge.Cuts(g))
	clear(bridge.Labels(g))
	clear(bridge.Cycle(g, 2))
	blocks := bridge.Blocks(g)
	_ = append(blocks[0], 77)
	if !slices.EqualFunc(blocks, want.blocks, slices.Equal) {
		t.Errorf("Blocks: %v", blocks)
	}
	clear(blocks[2])
	compare(t, g, want)
	cycle(t, g, 2, 2, 3)
}

// R2
func TestNotValid(t *testing.T) {
	for _, g := range []*graph.Graph{nil, {}} {
		if bridge.Bridges(g) != nil || bridge.Cuts(g) != nil || bridge.Labels(g) != nil || bridge.Blocks(g) != nil {
			t.Errorf("Bridges %v, Cuts %v, Labels %v, Blocks %v", bridge.Bridges(g), bridge.Cuts(g), bridge.Labels(g), bridge.Blocks(g))
		}
		for _, edge := range []int{-1, 0, 1} {
			if got := bridge.Cycle(g, edge); got != nil {
				t.Errorf("Cycle: %v", got)
			}
		}
	}
}
