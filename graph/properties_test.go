package graph_test

import (
	"math/rand/v2"
	"slices"
	"testing"

	"seepage/api"
	"seepage/graph"
)

// sample returns a random list of edges between n vertices.
func sample(r *rand.Rand, n, edges int) []api.Edge {
	var l []api.Edge
	if n < 2 {
		return nil
	}
	for range edges {
		u := r.IntN(n)
		v := (u + 1 + r.IntN(n-1)) % n
		l = append(l, api.Edge{U: u, V: v, W: r.Int64N(20) - 10})
	}
	return l
}

func graphs(f func(r *rand.Rand, n int, l []api.Edge)) {
	for seed := range uint64(120) {
		r := rand.New(rand.NewPCG(seed, 13))
		n := r.IntN(30)
		f(r, n, sample(r, n, r.IntN(2*n+1)))
	}
}

// distances returns the distances between all vertices by the definition: paths
// grow by one edge at a time.
func distances(n int, l []api.Edge) [][]int {
	var all [][]int
	for v := range n {
		dist := slices.Repeat([]int{-1}, n)
		dist[v] = 0
		for d := range n {
			for _, edge := range l {
				for _, way := range [][2]int{{edge.U, edge.V}, {edge.V, edge.U}} {
					if dist[way[0]] == d && dist[way[1]] < 0 {
						dist[way[1]] = d + 1
					}
				}
			}
		}
		all = append(all, dist)
	}
	return all
}

// P13.2, P13.3, P13.8
func TestEdgesOfVertices(t *testing.T) {
	graphs(func(r *rand.Rand, n int, l []api.Edge) {
		g := made(t, n, l...)
		if g.N() != n || !slices.Equal(g.Edges(), l) {
			t.Fatalf("N %d, Edges %v; expected %d, %v", g.N(), g.Edges(), n, l)
		}
		degrees, times := 0, make([]int, len(l))
		for v := range n {
			var want [][2]int
			sum := int64(0)
			for i, edge := range l {
				if edge.U == v {
					want = append(want, [2]int{i, edge.V})
					sum += edge.W
				}
				if edge.V == v {
					want = append(want, [2]int{i, edge.U})
					sum += edge.W
				}
			}
			got := around(g, v)
			if !slices.Equal(got, want) || g.Degree(v) != len(want) {
				t.Fatalf("Around(%d) %v, Degree %d; expected %v", v, got, g.Degree(v), want)
			}
			strength(t, g, v, sum, api.OK)
			degrees += g.Degree(v)
			for _, end := range got {
				times[end[0]]++
			}
		}
		if degrees != 2*len(l) || slices.ContainsFunc(times, func(n int) bool { return n != 2 }) {
			t.Fatalf("%d degrees, the edges occur %v times", degrees, times)
		}
	})
}

// P13.4, P13.5, P13.7, P13.9, P13.10
func TestComponentsAndDistances(t *testing.T) {
	graphs(func(r *rand.Rand, n int, l []api.Edge) {
		g := made(t, n, l...)
		all := distances(n, l)
		labels := make([]int, n)
		var components [][]int
		row := api.Row{}
		for v := range n {
			if got := g.Dist(v); !slices.Equal(got, all[v]) {
				t.Fatalf("Dist(%d) = %v, expected %v", v, got, all[v])
			}
			var component []int
			for w, d := range all[v] {
				if d >= 0 {
					component = append(component, w)
				}
			}
			labels[v] = component[0]
			if labels[v] == v {
				components = append(components, component)
				row.Largest = max(row.Largest, len(component))
				row.Count++
				row.Squares += int64(len(component) * len(component))
			}
		}
		if got := g.Labels(); !slices.Equal(got, labels) {
			t.Fatalf("Labels %v, expected %v", got, labels)
		}
		if got := g.Components(); !slices.EqualFunc(got, components, slices.Equal) {
			t.Fatalf("Components %v, expected %v", got, components)
		}
		if got := g.Row(); got != row {
			t.Fatalf("Row %v, expected %v", got, row)
		}
	})
}

// P13.6, P13.11
func TestThresholds(t *testing.T) {
	graphs(func(r *rand.Rand, n int, l []api.Edge) {
		g := made(t, n, l...)
		theta, eta := r.Int64N(24)-12, r.Int64N(24)-12
		theta, eta = min(theta, eta), max(theta, eta)
		low, high := g.Under(theta), g.Under(eta)
		want := slices.DeleteFunc(slices.Clone(l), func(edge api.Edge) bool { return edge.W > theta })
		checkSame(t, low, made(t, n, want...))
		checkSame(t, high.Under(theta), low)
		labels := high.Labels()
		for v, label := range low.Labels() {
			if labels[v] != labels[label] {
				t.Fatalf("%d and %d are connected at %d, and not at %d", v, label, theta, eta)
			}
		}
	})
}

// checkSame compares two graphs.
func checkSame(t *testing.T, got, want *graph.Graph) {
	t.Helper()
	if got.N() != want.N() || !slices.Equal(got.Edges(), want.Edges()) || !slices.Equal(got.Labels(), want.Labels()) {
		t.Fatalf("%v, expected %v", got.Edges(), want.Edges())
	}
	for v := range want.N() {
		if !slices.Equal(around(got, v), around(want, v)) {
			t.Fatalf("Around(%d) = %v, expected %v", v, around(got, v), around(want, v))
		}
	}
}

// P13.4, P13.5: as many vertices and edges as there can be.
func TestLargestGraph(t *testing.T) {
	const n = api.MaxVerts
	var l []api.Edge
	for i := range api.MaxEdges {
		l = append(l, api.Edge{U: i % n, V: (i + 1) % n, W: int64(i)})
	}
	g := made(t, n, l...)
	if row := g.Row(); row != (api.Row{Largest: n, Count: 1, Squares: n * n}) {
		t.Errorf("Row %v", row)
	}
	if d := g.Dist(0); d[n/2] != n/2 || d[n-1] != 1 {
		t.Errorf("Dist %d, %d", d[n/2], d[n-1])
	}
	if u := g.Under(n - 2); u.Dist(0)[n-1] != n-1 || u.Degree(0) != 1 {
		t.Errorf("Dist %d, Degree %d", u.Dist(0)[n-1], u.Degree(0))
	}
}
