package kruskal_test

import (
	"math/rand/v2"
	"slices"
	"testing"

	"seepage/api"
	"seepage/graph"
	"seepage/kruskal"
)

// sample returns random edges between n vertices.
func sample(r *rand.Rand, n, edges int, spread int64) []api.Edge {
	var l []api.Edge
	for range edges {
		u := r.IntN(n)
		l = append(l, edge(u, (u+1+r.IntN(n-1))%n, r.Int64N(spread)-spread/2))
	}
	return l
}

// picked returns the graph with some of the edges.
func picked(t *testing.T, n int, l []api.Edge, pick []int) *graph.Graph {
	t.Helper()
	var edges []api.Edge
	for _, i := range pick {
		edges = append(edges, l[i])
	}
	g, e := graph.New(n, edges)
	if e != api.OK {
		t.Fatal(n, l, pick, e)
	}
	return g
}

// sum returns the sum of the weights of some edges.
func sum(l []api.Edge, pick []int) int64 {
	s := int64(0)
	for _, i := range pick {
		s += l[i].W
	}
	return s
}

// before reports whether an edge comes before another one in the order of edges.
func before(l []api.Edge, i, k int) bool {
	return l[i].W < l[k].W || l[i].W == l[k].W && i < k
}

// P17.1 to P17.4, P17.8: all sets of edges of small graphs.
func TestAllSets(t *testing.T) {
	for seed := range uint64(120) {
		r := rand.New(rand.NewPCG(seed, 17))
		n := 2 + r.IntN(4)
		l := sample(r, n, r.IntN(8), 5)
		g, _ := graph.New(n, l)
		labels := g.Labels()
		var sets [][]int
		for bits := range 1 << len(l) {
			var pick []int
			for i := range l {
				if bits>>i&1 == 1 {
					pick = append(pick, i)
				}
			}
			h := picked(t, n, l, pick)
			want := slices.Equal(h.Labels(), labels) && len(pick) == n-g.Row().Count
			r.Shuffle(len(pick), func(i, k int) { pick[i], pick[k] = pick[k], pick[i] })
			spans(t, n, l, pick, want, api.OK)
			if want {
				sets = append(sets, pick)
			} else {
				minimal(t, n, l, pick, false, api.OK)
			}
		}
		smallest := sum(l, sets[0])
		for _, pick := range sets {
			smallest = min(smallest, sum(l, pick))
		}
		for _, pick := range sets {
			minimal(t, n, l, pick, sum(l, pick) == smallest, api.OK)
		}
		weight(t, n, l, smallest, api.OK)
		found, _ := kruskal.Forest(n, l)
		minimal(t, n, l, found, true, api.OK)
	}
}

// P17.1, P17.2, P17.5 to P17.7: larger graphs.
func TestForests(t *testing.T) {
	for seed := range uint64(80) {
		r := rand.New(rand.NewPCG(seed, 175))
		n := 2 + r.IntN(50)
		l := sample(r, n, r.IntN(4*n), 12)
		ordered := kruskal.Order(l)
		if len(ordered) != len(l) {
			t.Fatalf("Order of %d edges: %v", len(l), ordered)
		}
		for k := 1; k < len(ordered); k++ {
			if !before(l, ordered[k-1], ordered[k]) {
				t.Fatalf("Order of %v: %v", l, ordered)
			}
		}
		found, _ := kruskal.Forest(n, l)
		if !slices.IsSortedFunc(found, func(i, k int) int { return slices.Index(ordered, i) - slices.Index(ordered, k) }) {
			t.Fatalf("Forest of %v: %v", l, found)
		}
		g, _ := graph.New(n, l)
		tree := picked(t, n, l, found)
		if len(found) != n-g.Row().Count || !slices.Equal(tree.Labels(), g.Labels()) {
			t.Fatalf("Forest of %v: %v", l, found)
		}
		for i := range l {
			// All edges of the forest on the path between the ends of another one come
			// before it; so its ends are connected by such edges.
			if slices.Contains(found, i) {
				continue
			}
			earlier := slices.DeleteFunc(slices.Clone(found), func(k int) bool { return !before(l, k, i) })
			if picked(t, n, l, earlier).Dist(l[i].U)[l[i].V] < 0 {
				t.Fatalf("Forest of %v: %v, without %d", l, found, i)
			}
		}
		for theta := int64(-7); theta < 7; theta++ {
			if !slices.Equal(tree.Under(theta).Labels(), g.Under(theta).Labels()) {
				t.Fatalf("Forest of %v: %v, at %d", l, found, theta)
			}
		}
	}
}

// P17.8: the order of the list does not change the weights.
func TestOtherOrders(t *testing.T) {
	for seed := range uint64(60) {
		r := rand.New(rand.NewPCG(seed, 178))
		n := 2 + r.IntN(20)
		l := sample(r, n, r.IntN(4*n), 8)
		found, _ := kruskal.Forest(n, l)
		shuffled := make([]api.Edge, len(l))
		for i, k := range r.Perm(len(l)) {
			shuffled[i] = l[k]
			if r.IntN(2) == 0 {
				shuffled[i].U, shuffled[i].V = l[k].V, l[k].U
			}
		}
		other, _ := kruskal.Forest(n, shuffled)
		for k, i := range found {
			if shuffled[other[k]].W != l[i].W {
				t.Fatalf("Forest of %v: %v; of %v: %v", l, found, shuffled, other)
			}
		}
	}
}

// P17.4: with the edge added, and without it.
func TestSwapByDefinition(t *testing.T) {
	for seed := range uint64(300) {
		r := rand.New(rand.NewPCG(seed, 174))
		n := 2 + r.IntN(12)
		l := sample(r, n, r.IntN(3*n), 8)
		extra := sample(r, n, 1, 10)[0]
		old, _ := kruskal.Forest(n, l)
		now, _ := kruskal.Forest(n, append(slices.Clone(l), extra))
		want := -1
		for _, i := range old {
			if !slices.Contains(now, i) {
				want = i
			}
		}
		swap(t, n, l, extra, want, api.OK)
	}
}
