package dsu_test

import (
	"math/rand/v2"
	"testing"

	"seepage/api"
	"seepage/dsu"
)

// relabel unites two sets in a list of labels, and reports whether they were different ones.
func relabel(labels []int, a, b int) bool {
	from, to := max(labels[a], labels[b]), min(labels[a], labels[b])
	for i := range labels {
		if labels[i] == from {
			labels[i] = to
		}
	}
	return from != to
}

// P8.2 to P8.5
func TestRandomUnions(t *testing.T) {
	for seed := range uint64(80) {
		r := rand.New(rand.NewPCG(seed, 8))
		n := 1 + r.IntN(40)
		s, labels := made(t, n), made(t, n).Labels()
		var pairs [][2]int
		united := 0
		for range r.IntN(2 * n) {
			a, b := r.IntN(n), r.IntN(n)
			different := relabel(labels, a, b)
			union(t, s, a, b, different, api.OK)
			union(t, s, b, a, false, api.OK)
			if different {
				united++
			}
			pairs = append(pairs, [2]int{a, b})
			if s.Count() != s.Len()-united {
				t.Fatalf("Count %d after %d unions of %d elements", s.Count(), united, s.Len())
			}
			if r.IntN(6) == 0 {
				compare(t, s, labels)
				s = s.Copy()
			}
		}
		compare(t, s, labels)
		compare(t, inAnotherOrder(t, r, n, pairs), labels)
	}
}

// inAnotherOrder unites the same pairs, in another order and direction; P8.5.
func inAnotherOrder(t *testing.T, r *rand.Rand, n int, pairs [][2]int) *dsu.Sets {
	t.Helper()
	s := made(t, n)
	for _, k := range r.Perm(len(pairs)) {
		if _, e := s.Union(pairs[k][1], pairs[k][0]); e != api.OK {
			t.Fatalf("error %d", e)
		}
	}
	return s
}

// P8.2, P8.3: long ways to the root, from both ends.
func TestManyElements(t *testing.T) {
	const n = api.MaxSlots
	for _, up := range []bool{false, true} {
		s := made(t, n)
		for k := range n - 1 {
			a := k
			if up {
				a = n - 2 - k
			}
			union(t, s, a, a+1, true, api.OK)
		}
		if s.Count() != 1 || s.Size(n-1) != n || s.Size(n/2) != n || len(s.Groups()[0]) != n {
			t.Errorf("Count %d, Size %d", s.Count(), s.Size(n-1))
		}
		checkLeast(t, s, n-1, 0, api.OK)
		for i, label := range s.Labels() {
			if label != 0 {
				t.Fatalf("the label of %d is %d", i, label)
			}
		}
	}
}
