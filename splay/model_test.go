package splay_test

import (
	"math/big"
	"math/rand/v2"
	"slices"
	"testing"

	"seepage/api"
	"seepage/splay"
)

// model contains the sequence of each node as a list; the lists of nodes of one
// sequence are the same one.
type model struct {
	seqs   []*[]int
	values []int64
}

func newModel(n int) *model {
	m := &model{values: make([]int64, n)}
	for x := range n {
		m.seqs = append(m.seqs, &[]int{x})
	}
	return m
}

func (m *model) copy() *model {
	c := newModel(len(m.seqs))
	copy(c.values, m.values)
	for x, seq := range m.seqs {
		if (*seq)[0] == x {
			c.set(slices.Clone(*seq))
		}
	}
	return c
}

// set makes a list the sequence of its nodes.
func (m *model) set(l []int) {
	for _, x := range l {
		m.seqs[x] = &l
	}
}

func (m *model) join(x, y int) api.Errno {
	if m.seqs[x] == m.seqs[y] {
		return api.ErrHave
	}
	m.set(slices.Concat(*m.seqs[x], *m.seqs[y]))
	return api.OK
}

func (m *model) split(x int) {
	l := *m.seqs[x]
	at := slices.Index(l, x)
	m.set(l[:at])
	m.set(l[at:])
}

func (m *model) reverse(x int) {
	l := slices.Clone(*m.seqs[x])
	slices.Reverse(l)
	m.set(l)
}

func (m *model) sum(x int) (int64, api.Errno) {
	sum := new(big.Int)
	for _, y := range *m.seqs[x] {
		sum.Add(sum, big.NewInt(m.values[y]))
	}
	if !sum.IsInt64() {
		return 0, api.ErrOver
	}
	return sum.Int64(), api.OK
}

func (m *model) min(x int) int {
	l := slices.Clone(*m.seqs[x])
	slices.Sort(l)
	best := l[0]
	for _, y := range l {
		if m.values[y] < m.values[best] {
			best = y
		}
	}
	return best
}

// ask compares one answer about two nodes with the model; P11.6 to P11.8, P11.10.
func (m *model) ask(t *testing.T, s *splay.Seqs, kind, x, y int) {
	t.Helper()
	l := *m.seqs[x]
	switch kind {
	case 0:
		list(t, s, x, l...)
	case 1:
		if s.Same(x, y) != (m.seqs[x] == m.seqs[y]) {
			t.Fatalf("Same(%d, %d) = %t", x, y, s.Same(x, y))
		}
	case 2:
		if s.Pos(x) != slices.Index(l, x) || s.Len(x) != len(l) {
			t.Fatalf("Pos(%d) = %d, Len %d in %v", x, s.Pos(x), s.Len(x), l)
		}
	case 3:
		for k, z := range l {
			at(t, s, x, k, z, true)
		}
		at(t, s, x, len(l), 0, false)
		at(t, s, x, -1, 0, false)
	case 4:
		minimum(t, s, x, m.min(x), true)
	case 5:
		want, we := m.sum(x)
		sum(t, s, x, want, we)
	case 6:
		if s.Value(x) != m.values[x] {
			t.Fatalf("Value(%d) = %d, expected %d", x, s.Value(x), m.values[x])
		}
	}
}

// change makes a random call on both.
func (m *model) change(t *testing.T, s *splay.Seqs, r *rand.Rand, spread int64) {
	t.Helper()
	x, y := r.IntN(len(m.seqs)), r.IntN(len(m.seqs))
	switch r.IntN(8) {
	case 0:
		check(t, "Split", s.Split(x), api.OK)
		m.split(x)
	case 1, 2:
		check(t, "Reverse", s.Reverse(x), api.OK)
		m.reverse(x)
	case 3:
		v := r.Int64N(spread) - spread/2
		check(t, "Set", s.Set(x, v), api.OK)
		m.values[x] = v
	default:
		check(t, "Join", s.Join(x, y), m.join(x, y))
	}
}

// P11.2 to P11.12
func TestRandomCalls(t *testing.T) {
	for seed := range uint64(80) {
		r := rand.New(rand.NewPCG(seed, 11))
		n := 1 + r.IntN(30)
		s, m := made(t, n), newModel(n)
		spread := []int64{3, 100, most}[seed%3]
		for range 250 {
			m.change(t, s, r, spread)
			for range r.IntN(4) {
				m.ask(t, s, r.IntN(7), r.IntN(n), r.IntN(n))
			}
			if r.IntN(50) == 0 {
				c, mc := s.Copy(), m.copy()
				m.change(t, s, r, spread)
				s, m = c, mc
			}
		}
		for x := range n {
			for kind := range 7 {
				m.ask(t, s, kind, x, (x+1)%n)
			}
		}
	}
}

// P11.12: asking for anything changes no result of a later call.
func TestQuestionsChangeNothing(t *testing.T) {
	for seed := range uint64(20) {
		r := rand.New(rand.NewPCG(seed, 12))
		n := 2 + r.IntN(20)
		asked, quiet, m := made(t, n), made(t, n), newModel(n)
		for step := range uint64(100) {
			again := rand.New(rand.NewPCG(seed, step))
			m.copy().change(t, quiet, rand.New(rand.NewPCG(seed, step)), 50)
			m.change(t, asked, again, 50)
			m.ask(t, asked, r.IntN(7), r.IntN(n), r.IntN(n))
		}
		for x := range n {
			list(t, quiet, x, *m.seqs[x]...)
			minimum(t, quiet, x, m.min(x), true)
		}
	}
}

// P11.11
func TestSplitAndJoin(t *testing.T) {
	for seed := range uint64(40) {
		r := rand.New(rand.NewPCG(seed, 13))
		n := 2 + r.IntN(30)
		s := joined(t, n)
		for range 5 {
			cut := 1 + r.IntN(n-1)
			check(t, "Reverse", s.Reverse(r.IntN(n)), api.OK)
			before := s.List(0)
			x, other := before[cut], before[r.IntN(cut)]
			check(t, "Split", s.Split(x), api.OK)
			list(t, s, other, before[:cut]...)
			list(t, s, x, before[cut:]...)
			check(t, "Join", s.Join(other, x), api.OK)
			list(t, s, x, before...)
			check(t, "Reverse", s.Reverse(x), api.OK)
			check(t, "Reverse", s.Reverse(other), api.OK)
			list(t, s, x, before...)
			// The reversed parts, joined in the other order.
			check(t, "Split", s.Split(x), api.OK)
			check(t, "Reverse", s.Reverse(x), api.OK)
			check(t, "Reverse", s.Reverse(other), api.OK)
			check(t, "Join", s.Join(x, other), api.OK)
			slices.Reverse(before)
			list(t, s, other, before...)
		}
	}
}

// P11.3 to P11.6: as many nodes as there can be, in the orders that make trees deep.
func TestManyNodes(t *testing.T) {
	const n = api.MaxSlots
	s := joined(t, n)
	for x := range n {
		if s.Pos(x) != x {
			t.Fatalf("Pos(%d) = %d", x, s.Pos(x))
		}
	}
	check(t, "Reverse", s.Reverse(7), api.OK)
	for k := range n {
		at(t, s, 0, k, n-1-k, true)
	}
	for x := range n {
		check(t, "Split", s.Split(x), api.OK)
	}
	for x := range n - 1 {
		check(t, "Join", s.Join(0, x+1), api.OK)
	}
	if l := s.List(n / 2); len(l) != n || !slices.IsSorted(l) {
		t.Fatalf("List of %d nodes", len(l))
	}
}
