package cores_test

import (
	"math/rand/v2"
	"slices"
	"testing"

	"seepage/api"
	"seepage/cores"
	"seepage/graph"
)

// sample returns a random graph.
func sample(t *testing.T, r *rand.Rand, n, edges int) *graph.Graph {
	t.Helper()
	var pairs [][2]int
	for range edges {
		u := r.IntN(n)
		pairs = append(pairs, [2]int{u, (u + 1 + r.IntN(n-1)) % n})
	}
	return made(t, n, pairs...)
}

// inside returns how many edges each vertex of a set has to vertices of it, and how
// many edges that are in all.
func inside(g *graph.Graph, set []bool) (degrees []int, edges int) {
	degrees = make([]int, g.N())
	for _, edge := range g.Edges() {
		if set[edge.U] && set[edge.V] {
			degrees[edge.U]++
			degrees[edge.V]++
			edges++
		}
	}
	return degrees, edges
}

// expected returns by the definitions what the package says about a graph.
func expected(g *graph.Graph) result {
	n := g.N()
	left := slices.Repeat([]bool{true}, n)
	want := result{numbers: make([]int, n), colors: slices.Repeat([]int{-1}, n)}
	for range n {
		degrees, _ := inside(g, left)
		next := -1
		for v := range n {
			if left[v] && (next < 0 || degrees[v] < degrees[next]) {
				next = v
			}
		}
		left[next] = false
		want.degeneracy = max(want.degeneracy, degrees[next])
		want.numbers[next] = want.degeneracy
		want.order = append(want.order, next)
	}
	want.shells = make([]int, want.degeneracy+1)
	for _, number := range want.numbers {
		want.shells[number]++
	}
	for i := n - 1; i >= 0; i-- {
		v, color := want.order[i], 0
		for slices.ContainsFunc(g.Edges(), func(edge api.Edge) bool {
			return edge.U == v && want.colors[edge.V] == color || edge.V == v && want.colors[edge.U] == color
		}) {
			color++
		}
		want.colors[v] = color
	}
	vertices, edges := 1, 0
	for k := range want.degeneracy + 1 {
		set, size := coreSet(want.numbers, k)
		if _, inner := inside(g, set); inner*vertices >= edges*size {
			want.densest, vertices, edges = k, size, inner
		}
	}
	common := 1
	for d := 1; d <= vertices; d++ {
		if vertices%d == 0 && edges%d == 0 {
			common = d
		}
	}
	want.ratio = api.Frac{N: int64(edges / common), D: int64(vertices / common)}
	return want
}

// coreSet returns the vertices of the k-core, and how many there are.
func coreSet(numbers []int, k int) ([]bool, int) {
	set, size := make([]bool, len(numbers)), 0
	for v, number := range numbers {
		if number >= k {
			set[v] = true
			size++
		}
	}
	return set, size
}

// P15.1 to P15.4
func TestByDefinition(t *testing.T) {
	for seed := range uint64(200) {
		r := rand.New(rand.NewPCG(seed, 15))
		n := 2 + r.IntN(24)
		g := sample(t, r, n, r.IntN(4*n))
		want := expected(g)
		compare(t, g, want)
		for k := -1; k <= want.degeneracy+1; k++ {
			set, _ := coreSet(want.numbers, k)
			var members []int
			for v := range n {
				if set[v] {
					members = append(members, v)
				}
			}
			core(t, g, k, members...)
		}
	}
}

// P15.5: all sets of vertices of small graphs.
func TestCores(t *testing.T) {
	for seed := range uint64(60) {
		r := rand.New(rand.NewPCG(seed, 155))
		n := 2 + r.IntN(7)
		g := sample(t, r, n, r.IntN(3*n))
		numbers := cores.Numbers(g)
		for subset := range 1 << n {
			set := make([]bool, n)
			for v := range n {
				set[v] = subset>>v&1 == 1
			}
			degrees, _ := inside(g, set)
			least := -1
			for v := range n {
				if set[v] && (least < 0 || degrees[v] < least) {
					least = degrees[v]
				}
			}
			for v := range n {
				if set[v] && numbers[v] < least {
					t.Fatalf("%v: each vertex of %v has %d edges in it; the core number of %d is %d", g.Edges(), set, least, v, numbers[v])
				}
			}
		}
		for k := range cores.Degeneracy(g) + 1 {
			set, _ := coreSet(numbers, k)
			degrees, _ := inside(g, set)
			for v := range n {
				if set[v] && degrees[v] < k {
					t.Fatalf("%v: %d has %d edges in the %d-core", g.Edges(), v, degrees[v], k)
				}
			}
		}
	}
}

// P15.6, P15.7, P15.9
func TestProperties(t *testing.T) {
	for seed := range uint64(60) {
		r := rand.New(rand.NewPCG(seed, 156))
		n := 2 + r.IntN(80)
		g := sample(t, r, n, r.IntN(5*n))
		degeneracy, order, colors := cores.Degeneracy(g), cores.Order(g), cores.Colors(g)
		left := slices.Repeat([]bool{true}, n)
		most := 0
		for _, v := range order {
			degrees, _ := inside(g, left)
			most = max(most, degrees[v])
			left[v] = false
		}
		if most != degeneracy || len(g.Edges()) > 0 && degeneracy < 1 {
			t.Fatalf("Degeneracy %d; a vertex has %d edges to later ones", degeneracy, most)
		}
		for _, edge := range g.Edges() {
			if colors[edge.U] == colors[edge.V] {
				t.Fatalf("%d and %d have the color %d", edge.U, edge.V, colors[edge.U])
			}
		}
		if slices.Max(colors) > degeneracy || slices.Min(colors) < 0 {
			t.Fatalf("Degeneracy %d; Colors %v", degeneracy, colors)
		}
		_, ratio := cores.Densest(g)
		if 2*ratio.N < int64(degeneracy)*ratio.D || ratio.N > int64(degeneracy)*ratio.D {
			t.Fatalf("Degeneracy %d; Densest %v", degeneracy, ratio)
		}
	}
}

// P15.6: trees.
func TestTrees(t *testing.T) {
	for seed := range uint64(30) {
		r := rand.New(rand.NewPCG(seed, 157))
		n := 2 + r.IntN(40)
		var pairs [][2]int
		for v := 1; v < n; v++ {
			pairs = append(pairs, [2]int{v, r.IntN(v)})
		}
		if got := cores.Degeneracy(made(t, n, pairs...)); got != 1 {
			t.Fatalf("Degeneracy %d of a tree", got)
		}
	}
}

// P15.8
func TestOneMoreEdge(t *testing.T) {
	for seed := range uint64(60) {
		r := rand.New(rand.NewPCG(seed, 158))
		n := 2 + r.IntN(15)
		var pairs [][2]int
		before := make([]int, n)
		for range 5 * n {
			u := r.IntN(n)
			pairs = append(pairs, [2]int{u, (u + 1 + r.IntN(n-1)) % n})
			after := cores.Numbers(made(t, n, pairs...))
			for v := range n {
				if after[v] < before[v] || after[v] > before[v]+1 {
					t.Fatalf("%v: the core number of %d was %d, and is %d", pairs, v, before[v], after[v])
				}
			}
			before = after
		}
	}
}
