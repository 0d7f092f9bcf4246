package tally_test

import (
	"math/rand/v2"
	"testing"

	"seepage/api"
)

// relabel unites two sets in a list of labels, and reports whether they were different ones.
func relabel(labels []int, a, b int) bool {
	from, to := max(labels[a], labels[b]), min(labels[a], labels[b])
	for i := range labels {
		if labels[i] == from {
			labels[i] = to
		}
	}
	return from != to
}

// P10.2 to P10.5
func TestRandomUnions(t *testing.T) {
	for seed := range uint64(60) {
		r := rand.New(rand.NewPCG(seed, 10))
		n := 1 + r.IntN(40)
		spread := []int64{2, 5, 1000, 3037000499 / 40}[seed%4]
		weights := make([]int64, n)
		for i := range weights {
			weights[i] = r.Int64N(spread)
		}
		y, labels := made(t, weights...), alone(n)
		var pairs [][2]int
		for range r.IntN(2 * n) {
			a, b := r.IntN(n), r.IntN(n)
			pairs = append(pairs, [2]int{a, b})
			v, w, count, squares := y.Weight(a), y.Weight(b), y.Count(), y.Squares()
			different := relabel(labels, a, b)
			union(t, y, a, b, different, api.OK)
			if different && (y.Count() != count-1 || y.Squares() != squares+2*v*w || y.Weight(a) != v+w) {
				t.Fatalf("Count %d, Squares %d, Weight %d after %d, %d, %d and %d", y.Count(), y.Squares(), y.Weight(a), count, squares, v, w)
			}
			compare(t, y, weights, labels)
			if r.IntN(6) == 0 {
				y = y.Copy()
			}
		}
		other := made(t, weights...)
		for _, k := range r.Perm(len(pairs)) {
			other.Union(pairs[k][1], pairs[k][0])
		}
		compare(t, other, weights, labels)
	}
}

// P10.2, P10.3: as many elements as there can be.
func TestManyElements(t *testing.T) {
	const n = api.MaxSlots
	y := even(t, n)
	for k := 1; k < n; k++ {
		union(t, y, k, k-1, true, api.OK)
		size := int64(k + 1)
		if y.Largest() != size || y.Count() != n-k || y.Squares() != size*size+n-size {
			t.Fatalf("Largest %d, Count %d, Squares %d at %d", y.Largest(), y.Count(), y.Squares(), k)
		}
	}
}
