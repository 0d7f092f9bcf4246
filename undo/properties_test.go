package undo_test

import (
	"math/rand/v2"
	"slices"
	"testing"

	"seepage/api"
)

// relabel returns the labels after a union, and whether this was one of different sets.
func relabel(labels []int, a, b int) ([]int, bool) {
	from, to := max(labels[a], labels[b]), min(labels[a], labels[b])
	after := slices.Clone(labels)
	for i, label := range labels {
		if label == from {
			after[i] = to
		}
	}
	return after, from != to
}

// P9.2 to P9.9
func TestRandomCalls(t *testing.T) {
	for seed := range uint64(60) {
		r := rand.New(rand.NewPCG(seed, 9))
		n := 1 + r.IntN(30)
		s := made(t, n)
		// history contains the labels after each number of unions in force.
		history := [][]int{s.Labels()}
		for range 100 {
			last := history[len(history)-1]
			switch r.IntN(8) {
			case 0:
				mark := r.IntN(len(history)+2) - 1
				if mark < 0 || mark >= len(history) {
					undone(t, s, mark, api.ErrRange)
				} else {
					undone(t, s, mark, api.OK)
					history = history[:mark+1]
				}
			case 1:
				tryUnions(t, r, s.Trial, last)
			case 2:
				s = s.Copy()
			default:
				a, b := r.IntN(n), r.IntN(n)
				after, different := relabel(last, a, b)
				union(t, s, a, b, different, api.OK)
				if different {
					history = append(history, after)
				}
			}
			compare(t, s, history[len(history)-1])
		}
		for mark := len(history) - 1; mark >= 0; mark-- {
			undone(t, s, mark, api.OK)
			compare(t, s, history[mark])
		}
	}
}

// tryUnions checks a trial with random pairs.
func tryUnions(t *testing.T, r *rand.Rand, trial func([][2]int) (api.Row, api.Errno), labels []int) {
	t.Helper()
	var l [][2]int
	after := labels
	for range r.IntN(6) {
		a, b := r.IntN(len(labels)), r.IntN(len(labels))
		l = append(l, [2]int{a, b})
		after, _ = relabel(after, a, b)
	}
	if got, e := trial(l); got != rowOf(after) || e != api.OK {
		t.Fatalf("Trial(%v) of %v = %v, error %d; expected %v", l, labels, got, e, rowOf(after))
	}
}

// P9.9: a trial returns what the sets show after the same unions.
func TestTrialsAreUnionsThatAreUndone(t *testing.T) {
	for seed := range uint64(40) {
		r := rand.New(rand.NewPCG(seed, 99))
		n := 1 + r.IntN(40)
		s := made(t, n)
		for range r.IntN(n) {
			s.Union(r.IntN(n), r.IntN(n))
		}
		var l [][2]int
		for range r.IntN(n) {
			l = append(l, [2]int{r.IntN(n), r.IntN(n)})
		}
		got, e := s.Trial(l)
		mark, before := s.Mark(), s.Labels()
		for _, pair := range l {
			s.Union(pair[0], pair[1])
		}
		trial(t, s, nil, got, e)
		undone(t, s, mark, api.OK)
		compare(t, s, before)
	}
}

// P9.10
func TestOrderOfTheUnionsDoesNotMatter(t *testing.T) {
	for seed := range uint64(40) {
		r := rand.New(rand.NewPCG(seed, 10))
		n := 1 + r.IntN(40)
		s, other := made(t, n), made(t, n)
		var l [][2]int
		for range r.IntN(2 * n) {
			pair := [2]int{r.IntN(n), r.IntN(n)}
			l = append(l, pair)
			s.Union(pair[0], pair[1])
		}
		for _, k := range r.Perm(len(l)) {
			other.Union(l[k][1], l[k][0])
		}
		compare(t, other, s.Labels())
	}
}

// P9.2, P9.4: long chains of unions, which all are undone.
func TestManyElements(t *testing.T) {
	const n = api.MaxSlots
	for _, up := range []bool{false, true} {
		s := made(t, n)
		for k := range n - 1 {
			a := k
			if up {
				a = n - 2 - k
			}
			union(t, s, a, a+1, true, api.OK)
		}
		trial(t, s, [][2]int{{0, n - 1}}, api.Row{Largest: n, Count: 1, Squares: n * n}, api.OK)
		if s.Size(n-1) != n || s.Mark() != n-1 {
			t.Errorf("Size %d, Mark %d", s.Size(n-1), s.Mark())
		}
		undone(t, s, 0, api.OK)
		trial(t, s, nil, api.Row{Largest: 1, Count: n, Squares: n}, api.OK)
	}
}
