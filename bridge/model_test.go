package bridge_test

import (
	"math/rand/v2"
	"slices"
	"testing"

	"seepage/api"
	"seepage/bridge"
	"seepage/graph"
)

// graphs calls f with random graphs: small ones, so that all paths can be tried.
func graphs(t *testing.T, f func(g *graph.Graph)) {
	for seed := range uint64(400) {
		r := rand.New(rand.NewPCG(seed, 14))
		n := 2 + r.IntN(6)
		var pairs [][2]int
		for range r.IntN(11) {
			u := r.IntN(n)
			pairs = append(pairs, [2]int{u, (u + 1 + r.IntN(n-1)) % n})
		}
		f(made(t, n, pairs...))
	}
}

// without returns a graph without some of its edges.
func without(t *testing.T, g *graph.Graph, drop func(i int, edge api.Edge) bool) *graph.Graph {
	t.Helper()
	var pairs [][2]int
	for i, edge := range g.Edges() {
		if !drop(i, edge) {
			pairs = append(pairs, [2]int{edge.U, edge.V})
		}
	}
	return made(t, g.N(), pairs...)
}

// paths returns all paths from one vertex to another one that is different, as the
// lists of their edges.
func paths(g *graph.Graph, from, to int) [][]int {
	var all [][]int
	seen := make([]bool, g.N())
	var way []int
	var walk func(v int)
	walk = func(v int) {
		if v == to {
			all = append(all, slices.Clone(way))
			return
		}
		seen[v] = true
		for i, edge := range g.Edges() {
			for _, step := range [][2]int{{edge.U, edge.V}, {edge.V, edge.U}} {
				if step[0] == v && !seen[step[1]] {
					way = append(way, i)
					walk(step[1])
					way = way[:len(way)-1]
				}
			}
		}
		seen[v] = false
	}
	walk(from)
	return all
}

// cycles returns for each edge the simple cycles through it, each with this edge
// first, and then from its U to its V.
func cycles(g *graph.Graph) [][][]int {
	var all [][][]int
	for i, edge := range g.Edges() {
		var through [][]int
		for _, path := range paths(g, edge.U, edge.V) {
			if !slices.Contains(path, i) {
				through = append(through, append([]int{i}, path...))
			}
		}
		all = append(all, through)
	}
	return all
}

// expected returns by the definitions what the package says about a graph.
func expected(t *testing.T, g *graph.Graph) result {
	var want result
	for i, edge := range g.Edges() {
		if without(t, g, func(k int, _ api.Edge) bool { return k == i }).Dist(edge.U)[edge.V] < 0 {
			want.bridges = append(want.bridges, i)
		}
	}
	for v := range g.N() {
		rest := without(t, g, func(_ int, edge api.Edge) bool { return edge.U == v || edge.V == v })
		near := g.Dist(v)
		var others []int
		for w, d := range near {
			if d > 0 {
				others = append(others, w)
			}
		}
		if len(others) > 0 && slices.ContainsFunc(others, func(w int) bool { return rest.Dist(others[0])[w] < 0 }) {
			want.cuts = append(want.cuts, v)
		}
	}
	want.labels = without(t, g, func(i int, _ api.Edge) bool { return slices.Contains(want.bridges, i) }).Labels()
	for i, through := range cycles(g) {
		block := []int{i}
		for _, cycle := range through {
			block = append(block, cycle...)
		}
		slices.Sort(block)
		block = slices.Compact(block)
		if block[0] == i {
			want.blocks = append(want.blocks, block)
		}
	}
	return want
}

// P14.1 to P14.3
func TestByDefinition(t *testing.T) {
	graphs(t, func(g *graph.Graph) {
		compare(t, g, expected(t, g))
	})
}

// P14.4
func TestCyclesByDefinition(t *testing.T) {
	graphs(t, func(g *graph.Graph) {
		for i, through := range cycles(g) {
			var want []int
			for _, cycle := range through {
				if want == nil || len(cycle) < len(want) || len(cycle) == len(want) && slices.Compare(cycle, want) < 0 {
					want = cycle
				}
			}
			if got := bridge.Cycle(g, i); !slices.Equal(got, want) {
				t.Fatalf("Cycle(%d) of %v: %v, expected %v", i, g.Edges(), got, want)
			}
		}
	})
}

// P14.5, with graphs that are too large for the definitions.
func TestProperties(t *testing.T) {
	for seed := range uint64(60) {
		r := rand.New(rand.NewPCG(seed, 145))
		n := 2 + r.IntN(60)
		var pairs [][2]int
		for range r.IntN(2 * n) {
			u := r.IntN(n)
			pairs = append(pairs, [2]int{u, (u + 1 + r.IntN(min(n-1, 9))) % n})
		}
		checkProperties(t, made(t, n, pairs...))
	}
}

func checkProperties(t *testing.T, g *graph.Graph) {
	bridges, cuts, labels, blocks := bridge.Bridges(g), bridge.Cuts(g), bridge.Labels(g), bridge.Blocks(g)
	edges := g.Edges()
	blockOf := slices.Repeat([]int{-1}, len(edges))
	around := make([]map[int]bool, g.N())
	for k, block := range blocks {
		for _, i := range block {
			if blockOf[i] >= 0 {
				t.Fatalf("edge %d is in the blocks %d and %d", i, blockOf[i], k)
			}
			blockOf[i] = k
		}
	}
	for i, edge := range edges {
		isBridge := slices.Contains(bridges, i)
		if isBridge != (labels[edge.U] != labels[edge.V]) || isBridge != (len(blocks[blockOf[i]]) == 1) {
			t.Fatalf("edge %d of %v: bridges %v, labels %v, blocks %v", i, edges, bridges, labels, blocks)
		}
		for _, v := range []int{edge.U, edge.V} {
			if around[v] == nil {
				around[v] = map[int]bool{}
			}
			around[v][blockOf[i]] = true
		}
		cycle := bridge.Cycle(g, i)
		if isBridge != (len(cycle) == 0) {
			t.Fatalf("Cycle(%d) of %v: %v, bridges %v", i, edges, cycle, bridges)
		}
		for _, k := range cycle {
			if blockOf[k] != blockOf[i] {
				t.Fatalf("Cycle(%d) of %v: %v, blocks %v", i, edges, cycle, blocks)
			}
		}
	}
	for v := range g.N() {
		if slices.Contains(cuts, v) != (len(around[v]) > 1) {
			t.Fatalf("vertex %d of %v: cuts %v, blocks %v", v, edges, cuts, blocks)
		}
	}
}
