package modular_test

import (
	"math/big"
	"math/rand/v2"
	"slices"
	"testing"

	"seepage/api"
	"seepage/graph"
)

// samples calls f with random graphs and labels.
func samples(t *testing.T, f func(r *rand.Rand, g *graph.Graph, labels []int)) {
	for seed := range uint64(150) {
		r := rand.New(rand.NewPCG(seed, 24))
		n := 2 + r.IntN(16)
		var pairs [][2]int
		for range r.IntN(3 * n) {
			u := r.IntN(n)
			pairs = append(pairs, [2]int{u, (u + 1 + r.IntN(n-1)) % n})
		}
		labels := make([]int, n)
		spread := 1 + r.IntN(n)
		for v := range labels {
			labels[v] = r.IntN(spread) - spread/2
		}
		f(r, made(t, n, pairs...), labels)
	}
}

// defined returns the number of inner edges and the modularity by the definition.
func defined(g *graph.Graph, labels []int) (int64, *big.Rat) {
	m, inner := int64(0), int64(0)
	degrees := map[int]int64{}
	for _, edge := range g.Edges() {
		m++
		degrees[labels[edge.U]]++
		degrees[labels[edge.V]]++
		if labels[edge.U] == labels[edge.V] {
			inner++
		}
	}
	if m == 0 {
		return 0, new(big.Rat)
	}
	s := int64(0)
	for _, d := range degrees {
		s += d * d
	}
	return inner, big.NewRat(4*m*inner-s, 4*m*m)
}

// moved returns the labels with one of them changed.
func moved(labels []int, v, to int) []int {
	l := slices.Clone(labels)
	l[v] = to
	return l
}

// near returns the labels of the neighbours of a vertex in increasing order, one
// for each edge.
func near(g *graph.Graph, labels []int, v int) []int {
	var l []int
	for _, edge := range g.Edges() {
		if edge.U == v {
			l = append(l, labels[edge.V])
		}
		if edge.V == v {
			l = append(l, labels[edge.U])
		}
	}
	slices.Sort(l)
	return l
}

// P24.1, P24.2, P24.5
func TestQualityByDefinition(t *testing.T) {
	samples(t, func(r *rand.Rand, g *graph.Graph, labels []int) {
		inner, q := defined(g, labels)
		quality(t, g, labels, q.Num().Int64(), q.Denom().Int64(), api.OK)
		inside(t, g, labels, int(inner), api.OK)
		if q.Cmp(big.NewRat(-1, 2)) < 0 || q.Cmp(big.NewRat(1, 1)) >= 0 {
			t.Fatalf("Quality(%v, %v) = %v", g.Edges(), labels, q)
		}
		names := r.Perm(100)
		others := slices.Clone(labels)
		for v, label := range labels {
			others[v] = names[label+20] - 50
		}
		quality(t, g, others, q.Num().Int64(), q.Denom().Int64(), api.OK)
		quality(t, g, slices.Repeat([]int{-5}, len(labels)), 0, 1, api.OK)
		for v := range labels {
			for _, to := range append(slices.Clone(labels), 999) {
				_, other := defined(g, moved(labels, v, to))
				d := new(big.Rat).Sub(other, q)
				gain(t, g, labels, v, to, d.Num().Int64(), d.Denom().Int64(), api.OK)
				gain(t, g, moved(labels, v, to), v, labels[v], -d.Num().Int64(), d.Denom().Int64(), api.OK)
			}
		}
	})
}

// P24.3, P24.5
func TestGreedyByDefinition(t *testing.T) {
	passes := 0
	samples(t, func(r *rand.Rand, g *graph.Graph, labels []int) {
		current := slices.Clone(labels)
		for changed := true; changed; passes++ {
			changed = false
			for v := range current {
				_, q := defined(g, current)
				best, most := current[v], new(big.Rat)
				for _, to := range near(g, current, v) {
					_, other := defined(g, moved(current, v, to))
					if d := other.Sub(other, q); d.Cmp(most) > 0 {
						best, most = to, d
					}
				}
				changed = changed || best != current[v]
				current[v] = best
			}
		}
		greedy(t, g, labels, current, api.OK)
		greedy(t, g, current, current, api.OK)
		_, before := defined(g, labels)
		if _, after := defined(g, current); after.Cmp(before) < 0 {
			t.Fatalf("Quality was %v, and is %v", before, after)
		}
	})
	// Some need more than a pass with changes and one without.
	if passes <= 300 {
		t.Errorf("%d passes", passes)
	}
}

// P24.4
func TestSpreadByDefinition(t *testing.T) {
	samples(t, func(r *rand.Rand, g *graph.Graph, labels []int) {
		current := slices.Clone(labels)
		for rounds := range 12 {
			spread(t, g, labels, rounds, current, api.OK)
			next := slices.Clone(current)
			for v := range current {
				l := near(g, current, v)
				count := func(label int) (n int) {
					for _, x := range l {
						if x == label {
							n++
						}
					}
					return n
				}
				if len(l) == 0 {
					continue
				}
				most := l[0]
				for _, label := range l {
					if count(label) > count(most) {
						most = label
					}
				}
				if count(current[v]) < count(most) {
					next[v] = most
				}
			}
			current = next
		}
	})
}
