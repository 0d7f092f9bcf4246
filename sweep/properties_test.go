package sweep_test

import (
	"math/rand/v2"
	"slices"
	"testing"

	"seepage/api"
	"seepage/graph"
	"seepage/kruskal"
	"seepage/shuffle"
	"seepage/sweep"
)

func graphs(f func(r *rand.Rand, n int, l []api.Edge)) {
	for seed := range uint64(100) {
		r := rand.New(rand.NewPCG(seed, 27))
		n := 2 + r.IntN(20)
		var l []api.Edge
		for range r.IntN(3 * n) {
			u := r.IntN(n)
			l = append(l, edge(u, (u+1+r.IntN(n-1))%n, r.Int64N(12)-6))
		}
		f(r, n, l)
	}
}

// defined returns the rows of an order by the definition.
func defined(n int, l []api.Edge, order []int) []api.Row {
	var edges []api.Edge
	var want []api.Row
	for k := range len(order) + 1 {
		g, _ := graph.New(n, edges)
		want = append(want, g.Row())
		if k < len(order) {
			edges = append(edges, l[order[k]])
		}
	}
	return want
}

// P27.1, P27.3, P27.5 to P27.8
func TestRowsByDefinition(t *testing.T) {
	graphs(func(r *rand.Rand, n int, l []api.Edge) {
		order := r.Perm(len(l))
		want := defined(n, l, order)
		rows(t, n, l, order, want, api.OK)
		k := r.IntN(len(l) + 1)
		rows(t, n, l, order[:k], want[:k+1], api.OK)
		checkGrowth(t, n, l, want)
		var draws []uint64
		for range len(l) + r.IntN(3) {
			draws = append(draws, r.Uint64())
		}
		drawn, _ := shuffle.Draw(len(l), draws)
		random(t, n, l, draws, defined(n, l, drawn), api.OK)
	})
}

// checkGrowth checks what holds for the rows of each order of all edges.
func checkGrowth(t *testing.T, n int, l []api.Edge, all []api.Row) {
	t.Helper()
	g, _ := graph.New(n, l)
	if all[0] != row(1, n, int64(n)) || all[len(all)-1] != g.Row() {
		t.Fatalf("%v of %v", all, l)
	}
	different, best := 0, 0
	for i := 1; i < len(all); i++ {
		a, b := all[i-1], all[i]
		if b.Largest < a.Largest || b.Squares < a.Squares || b.Count != a.Count && b.Count != a.Count-1 || b.Count == a.Count && a != b {
			t.Fatalf("%v of %v", all, l)
		}
		if a != b {
			different++
		}
		best = max(best, b.Largest-a.Largest)
	}
	if different > n-1 {
		t.Fatalf("%d of %v differ from the one before", different, all)
	}
	if best > 0 {
		i := 1
		for all[i].Largest-all[i-1].Largest < best {
			i++
		}
		jump(t, all, i, best)
	} else {
		jump(t, all, 0, 0)
	}
	for size := range n + 2 {
		i := 0
		for i < len(all) && all[i].Largest < size {
			i++
		}
		giant(t, all, size, i%len(all), i < len(all))
	}
}

// P27.2, P27.9
func TestLevelsByDefinition(t *testing.T) {
	graphs(func(r *rand.Rand, n int, l []api.Edge) {
		g, _ := graph.New(n, l)
		var want []api.Level
		for theta := int64(-8); theta < 8; theta++ {
			if slices.ContainsFunc(l, func(edge api.Edge) bool { return edge.W == theta }) {
				want = append(want, api.Level{Theta: theta, Row: g.Under(theta).Row()})
			}
		}
		levels(t, n, l, want, api.OK)
		order := kruskal.Order(l)
		all, _ := sweep.Rows(n, l, order)
		for _, level := range want {
			k := 0
			for k < len(order) && l[order[k]].W <= level.Theta {
				k++
			}
			if all[k] != level.Row {
				t.Fatalf("%v; row %d is %v", level, k, all[k])
			}
		}
	})
}

// P27.4, P27.10
func TestWeightedByDefinition(t *testing.T) {
	graphs(func(r *rand.Rand, n int, l []api.Edge) {
		order := r.Perm(len(l))[:r.IntN(len(l)+1)]
		var ones, multiples []heavy
		factor := 1 + r.Int64N(100)
		for _, row := range defined(n, l, order) {
			ones = append(ones, heavy{int64(row.Largest), row.Count, row.Squares})
			multiples = append(multiples, heavy{int64(row.Largest) * factor, row.Count, row.Squares * factor * factor})
		}
		weighted(t, slices.Repeat([]int64{1}, n), l, order, ones, api.OK)
		weighted(t, slices.Repeat([]int64{factor}, n), l, order, multiples, api.OK)
		var weights []int64
		for range n {
			weights = append(weights, max(0, r.Int64N(50)-10))
		}
		var want []heavy
		var edges []api.Edge
		for k := range len(order) + 1 {
			g, _ := graph.New(n, edges)
			var x heavy
			for _, component := range g.Components() {
				sum := int64(0)
				for _, v := range component {
					sum += weights[v]
				}
				x = heavy{max(x.largest, sum), x.count + 1, x.squares + sum*sum}
			}
			want = append(want, x)
			if k < len(order) {
				edges = append(edges, l[order[k]])
			}
		}
		weighted(t, weights, l, order, want, api.OK)
	})
}
