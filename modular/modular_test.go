package modular_test

import (
	"math"
	"slices"
	"testing"

	"seepage/api"
	"seepage/graph"
	"seepage/modular"
)

// made returns a graph, whose edges are given by the pairs of their ends.
func made(t *testing.T, n int, pairs ...[2]int) *graph.Graph {
	t.Helper()
	var l []api.Edge
	for i, pair := range pairs {
		l = append(l, api.Edge{U: pair[0], V: pair[1], W: int64(-i)})
	}
	g, e := graph.New(n, l)
	if g == nil || e != api.OK {
		t.Fatalf("New(%d, %d edges) = %v, error %d", n, len(l), g, e)
	}
	return g
}

func quality(t *testing.T, g *graph.Graph, labels []int, n, d int64, we api.Errno) {
	t.Helper()
	if got, e := modular.Quality(g, labels); got != (api.Frac{N: n, D: d}) || e != we {
		t.Fatalf("Quality(%v, %v) = %v, error %d; expected %d/%d, error %d", g.Edges(), labels, got, e, n, d, we)
	}
}

func inside(t *testing.T, g *graph.Graph, labels []int, want int, we api.Errno) {
	t.Helper()
	if got, e := modular.Inside(g, labels); got != want || e != we {
		t.Fatalf("Inside(%v, %v) = %d, error %d; expected %d, error %d", g.Edges(), labels, got, e, want, we)
	}
}

func gain(t *testing.T, g *graph.Graph, labels []int, v, to int, n, d int64, we api.Errno) {
	t.Helper()
	if got, e := modular.Gain(g, labels, v, to); got != (api.Frac{N: n, D: d}) || e != we {
		t.Fatalf("Gain(%v, %v, %d, %d) = %v, error %d; expected %d/%d, error %d", g.Edges(), labels, v, to, got, e, n, d, we)
	}
}

func greedy(t *testing.T, g *graph.Graph, labels, want []int, we api.Errno) {
	t.Helper()
	if got, e := modular.Greedy(g, labels); !slices.Equal(got, want) || e != we {
		t.Fatalf("Greedy(%v, %v) = %v, error %d; expected %v, error %d", g.Edges(), labels, got, e, want, we)
	}
}

func spread(t *testing.T, g *graph.Graph, labels []int, rounds int, want []int, we api.Errno) {
	t.Helper()
	if got, e := modular.Spread(g, labels, rounds); !slices.Equal(got, want) || e != we {
		t.Fatalf("Spread(%v, %v, %d) = %v, error %d; expected %v, error %d", g.Edges(), labels, rounds, got, e, want, we)
	}
}

// example is the graph of the chapter's examples: two triangles and an edge.
func example(t *testing.T) *graph.Graph {
	return made(t, 6, [2]int{0, 1}, [2]int{1, 2}, [2]int{2, 0}, [2]int{2, 3}, [2]int{3, 4}, [2]int{4, 5}, [2]int{5, 3})
}

// P24.1 to P24.4: the chapter's examples.
func TestExamples(t *testing.T) {
	g := example(t)
	two := []int{0, 0, 0, 3, 3, 3}
	quality(t, g, two, 5, 14, api.OK)
	inside(t, g, two, 6, api.OK)
	quality(t, g, make([]int, 6), 0, 1, api.OK)
	quality(t, g, []int{0, 1, 2, 3, 4, 5}, -17, 98, api.OK)
	gain(t, g, two, 2, 3, -23, 98, api.OK)
	greedy(t, g, []int{0, 1, 2, 3, 4, 5}, []int{1, 1, 1, 5, 5, 5}, api.OK)
	spread(t, g, []int{0, 0, 2, 3, 3, 3}, 1, two, api.OK)
	spread(t, made(t, 1), []int{7}, 1, []int{7}, api.OK)
}

// P24.1 to P24.4: graphs without edges, and without vertices.
func TestWithoutEdges(t *testing.T) {
	none, lonely := made(t, 0), made(t, 3)
	labels := []int{5, math.MinInt, 5}
	quality(t, none, nil, 0, 1, api.OK)
	quality(t, lonely, labels, 0, 1, api.OK)
	inside(t, none, []int{}, 0, api.OK)
	inside(t, lonely, labels, 0, api.OK)
	gain(t, lonely, labels, 1, 5, 0, 1, api.OK)
	gain(t, none, nil, 0, 0, 0, 0, api.ErrRange)
	greedy(t, none, nil, nil, api.OK)
	greedy(t, lonely, labels, labels, api.OK)
	spread(t, none, nil, 9, nil, api.OK)
	spread(t, lonely, labels, 1000, labels, api.OK)
}

// P24.1 to P24.4: too few labels, or too many, and other errors in their order.
func TestErrors(t *testing.T) {
	g := example(t)
	for _, labels := range [][]int{nil, {0, 0, 0, 3, 3}, {0, 0, 0, 3, 3, 3, 3}} {
		quality(t, g, labels, 0, 0, api.ErrArg)
		inside(t, g, labels, 0, api.ErrArg)
		for _, i := range []int{0, -1, 7} {
			gain(t, g, labels, i, 0, 0, 0, api.ErrArg)
			spread(t, g, labels, i, nil, api.ErrArg)
		}
		greedy(t, g, labels, nil, api.ErrArg)
	}
	labels := make([]int, 6)
	for _, v := range []int{-1, 6, math.MinInt, math.MaxInt} {
		gain(t, g, labels, v, 0, 0, 0, api.ErrRange)
	}
	for _, rounds := range []int{-1, 1001, math.MinInt, math.MaxInt} {
		spread(t, g, labels, rounds, nil, api.ErrRange)
	}
	spread(t, g, labels, 1000, labels, api.OK)
}

// P24.1, P24.2: parallel edges, and labels at the ends of the range.
func TestQuality(t *testing.T) {
	// 0 and 1 have 3 edges, 1 and 2 one: m is 4, the degrees are 3, 4 and 1.
	g := made(t, 3, [2]int{0, 1}, [2]int{1, 0}, [2]int{1, 2}, [2]int{0, 1})
	quality(t, g, []int{math.MinInt, math.MinInt, math.MaxInt}, -1, 32, api.OK)
	inside(t, g, []int{math.MinInt, math.MinInt, math.MaxInt}, 3, api.OK)
	quality(t, g, []int{-1, 0, 1}, -13, 32, api.OK)
	// One class for 0 and 2: S is 16 + 16, and I is 0.
	quality(t, g, []int{4, 0, 4}, -1, 2, api.OK)
	// From -26/64 to -2/64, to -32/64, and to where it is.
	gain(t, g, []int{-1, 0, 1}, 0, 0, 3, 8, api.OK)
	gain(t, g, []int{-1, 0, 1}, 1, -1, 3, 8, api.OK)
	gain(t, g, []int{-1, 0, 1}, 0, 1, -3, 32, api.OK)
	gain(t, g, []int{-1, 0, 1}, 0, 77, 0, 1, api.OK)
	gain(t, g, []int{-1, 0, 1}, 0, -1, 0, 1, api.OK)
	gain(t, g, []int{0, 0, 0}, 2, math.MaxInt, -1, 32, api.OK)
	pair := made(t, 2, [2]int{0, 1})
	quality(t, pair, []int{0, 1}, -1, 2, api.OK)
	quality(t, pair, []int{1, 1}, 0, 1, api.OK)
}

// P24.3: the order of vertices and of labels, and passes after the first one.
func TestGreedy(t *testing.T) {
	pair := made(t, 2, [2]int{1, 0})
	greedy(t, pair, []int{0, 1}, []int{1, 1}, api.OK)
	greedy(t, pair, []int{9, -4}, []int{-4, -4}, api.OK)
	// The vertex 0 gains the same by each of its neighbours.
	star := made(t, 4, [2]int{0, 3}, [2]int{0, 1}, [2]int{0, 2})
	greedy(t, star, []int{0, 3, 2, 1}, []int{1, 1, 1, 1}, api.OK)
	// By parallel edges more.
	greedy(t, made(t, 3, [2]int{0, 1}, [2]int{2, 0}, [2]int{0, 2}), []int{0, 1, 2}, []int{2, 2, 2}, api.OK)
	two := []int{0, 0, 0, 3, 3, 3}
	greedy(t, example(t), two, two, api.OK)
	// A vertex without edges keeps its label.
	greedy(t, made(t, 3, [2]int{0, 2}), []int{0, 0, 2}, []int{2, 0, 2}, api.OK)
}

// P24.4: labels that are equally frequent.
func TestSpread(t *testing.T) {
	pair := made(t, 2, [2]int{0, 1})
	spread(t, pair, []int{8, -8}, 0, []int{8, -8}, api.OK)
	spread(t, pair, []int{8, -8}, 1, []int{-8, 8}, api.OK)
	spread(t, pair, []int{8, -8}, 999, []int{-8, 8}, api.OK)
	spread(t, pair, []int{8, -8}, 1000, []int{8, -8}, api.OK)
	star := made(t, 5, [2]int{4, 0}, [2]int{4, 1}, [2]int{2, 4}, [2]int{3, 4})
	spread(t, star, []int{3, 2, 3, 2, 3}, 1, []int{3, 3, 3, 3, 3}, api.OK)
	spread(t, star, []int{3, 2, 3, 2, 2}, 1, []int{2, 2, 2, 2, 2}, api.OK)
	spread(t, star, []int{3, -2, 3, -2, 9}, 1, []int{9, 9, 9, 9, -2}, api.OK)
	spread(t, star, []int{3, -2, 3, -2, -9}, 1, []int{-9, -9, -9, -9, -2}, api.OK)
	spread(t, star, []int{5, 6, 7, 7, 5}, 1, []int{5, 5, 5, 5, 7}, api.OK)
	spread(t, star, []int{5, 5, 6, 6, 0}, 2, []int{5, 5, 5, 5, 0}, api.OK)
	// Parallel edges count separately.
	spread(t, made(t, 4, [2]int{0, 1}, [2]int{0, 2}, [2]int{3, 0}, [2]int{0, 3}), []int{9, 1, 2, 3}, 1, []int{3, 9, 9, 9}, api.OK)
}

// P1, P24.1 to P24.4: as many vertices and edges as there can be.
func TestLargestGraphs(t *testing.T) {
	const n = api.MaxVerts
	var pairs [][2]int
	labels := make([]int, n)
	for v := range n {
		labels[v] = v
		for _, step := range []int{1, 5, 77, 900} {
			pairs = append(pairs, [2]int{v, (v + step) % n})
		}
	}
	g := made(t, n, pairs...)
	got, e := modular.Greedy(g, labels)
	if q, _ := modular.Quality(g, got); e != api.OK || q.N <= 0 {
		t.Errorf("Greedy: error %d, Quality %v", e, q)
	}
	if got, e := modular.Spread(g, labels, 1000); len(got) != n || e != api.OK {
		t.Errorf("Spread: error %d", e)
	}
	// m is 2^14: 4 m^2 is 2^30, and all degrees are 8.
	if got, e := modular.Quality(g, labels); got != (api.Frac{N: -1, D: n}) || e != api.OK {
		t.Errorf("Quality: %v, error %d", got, e)
	}
	pair := made(t, 2, slices.Repeat([][2]int{{0, 1}}, api.MaxEdges)...)
	if got, e := modular.Gain(pair, []int{0, 1}, 1, 0); got != (api.Frac{N: 1, D: 2}) || e != api.OK {
		t.Errorf("Gain: %v, error %d", got, e)
	}
}

// R4
func TestMemory(t *testing.T) {
	g := example(t)
	labels := []int{0, 1, 2, 3, 4, 5, 99}
	for _, f := range []func([]int) ([]int, api.Errno){
		func(l []int) ([]int, api.Errno) { return modular.Greedy(g, l) },
		func(l []int) ([]int, api.Errno) { return modular.Spread(g, l, 0) },
		func(l []int) ([]int, api.Errno) { return modular.Spread(g, l, 3) },
	} {
		got, _ := f(labels[:6])
		clear(append(got, 7))
		if !slices.Equal(labels, []int{0, 1, 2, 3, 4, 5, 99}) {
			t.Errorf("%v", labels)
		}
	}
}

// R2
func TestNotValid(t *testing.T) {
	for _, g := range []*graph.Graph{nil, {}} {
		for _, labels := range [][]int{nil, {0}} {
			quality(t, g, labels, 0, 0, api.ErrNil)
			inside(t, g, labels, 0, api.ErrNil)
			for _, i := range []int{-1, 0, 1} {
				gain(t, g, labels, i, 0, 0, 0, api.ErrNil)
				spread(t, g, labels, i, nil, api.ErrNil)
			}
			greedy(t, g, labels, nil, api.ErrNil)
		}
	}
}
