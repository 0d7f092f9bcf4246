package cluster_test

import (
	"math/rand/v2"
	"slices"
	"testing"

	"seepage/api"
	"seepage/cluster"
	"seepage/graph"
)

// limit is above all weights of the random graphs.
const limit = 12

func graphs(t *testing.T, f func(r *rand.Rand, n int, l []api.Edge, v *cluster.View)) {
	for seed := range uint64(80) {
		r := rand.New(rand.NewPCG(seed, 21))
		n := 2 + r.IntN(24)
		var l []api.Edge
		for range r.IntN(2*n + 1) {
			u := r.IntN(n)
			l = append(l, edge(u, (u+1+r.IntN(n-1))%n, r.Int64N(2*limit-2)-limit+1))
		}
		f(r, n, l, made(t, n, l...))
	}
}

// P21.2, P21.3, P21.6
func TestByDefinition(t *testing.T) {
	graphs(t, func(r *rand.Rand, n int, l []api.Edge, v *cluster.View) {
		g, _ := graph.New(n, l)
		for theta := int64(-limit); theta <= limit; theta++ {
			compare(t, v, theta, g.Under(theta).Labels()...)
			if got := v.Row(theta); got != g.Under(theta).Row() {
				t.Fatalf("Row(%d) = %v", theta, got)
			}
		}
	})
}

// P21.4, P21.7
func TestSteps(t *testing.T) {
	graphs(t, func(r *rand.Rand, n int, l []api.Edge, v *cluster.View) {
		var want []int64
		for w := int64(-limit); w <= limit; w++ {
			if v.Count(w) < v.Count(w-1) {
				want = append(want, w)
			}
		}
		steps(t, v, want...)
		for range 40 {
			a, b := r.Int64N(2*limit)-limit, r.Int64N(2*limit)-limit
			a, b = min(a, b), max(a, b)
			between := slices.ContainsFunc(want, func(w int64) bool { return w > a && w <= b })
			if slices.Equal(v.Labels(a), v.Labels(b)) == between {
				t.Fatalf("Steps %v; Labels(%d) = %v, Labels(%d) = %v", want, a, v.Labels(a), b, v.Labels(b))
			}
		}
	})
}

// P21.5
func TestGrowth(t *testing.T) {
	graphs(t, func(r *rand.Rand, n int, l []api.Edge, v *cluster.View) {
		for u := range n {
			for theta := int64(-limit); theta < limit; theta++ {
				small, _ := v.Members(u, theta)
				large, _ := v.Members(u, theta+1)
				for _, w := range small {
					if !slices.Contains(large, w) {
						t.Fatalf("Members(%d, %d) = %v; one more: %v", u, theta, small, large)
					}
				}
			}
		}
	})
}

// P21.8
func TestHeavierEdges(t *testing.T) {
	graphs(t, func(r *rand.Rand, n int, l []api.Edge, v *cluster.View) {
		theta := r.Int64N(2*limit) - limit
		light := slices.DeleteFunc(slices.Clone(l), func(edge api.Edge) bool { return edge.W > theta })
		compare(t, made(t, n, light...), theta, v.Labels(theta)...)
	})
}
