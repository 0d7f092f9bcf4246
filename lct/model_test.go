package lct_test

import (
	"cmp"
	"maps"
	"math"
	"math/rand/v2"
	"slices"
	"testing"

	"seepage/api"
	"seepage/lct"
)

// model is a forest as sets of neighbours.
type model struct {
	keys []int64
	near []map[int]bool
}

func newModel(n int) *model {
	m := &model{keys: make([]int64, n), near: make([]map[int]bool, n)}
	for v := range n {
		m.near[v] = map[int]bool{}
	}
	return m
}

func (m *model) copy() *model {
	c := &model{keys: slices.Clone(m.keys)}
	for _, near := range m.near {
		c.near = append(c.near, maps.Clone(near))
	}
	return c
}

// path returns the path from a to b, or nil.
func (m *model) path(a, b int) []int {
	return m.search(a, b, -1)
}

func (m *model) search(a, b, from int) []int {
	if a == b {
		return []int{a}
	}
	for next := range m.near[a] {
		if next != from {
			if rest := m.search(next, b, a); rest != nil {
				return append([]int{a}, rest...)
			}
		}
	}
	return nil
}

func (m *model) link(a, b int) api.Errno {
	if a == b {
		return api.ErrLoop
	}
	if m.path(a, b) != nil {
		return api.ErrHave
	}
	m.near[a][b], m.near[b][a] = true, true
	return api.OK
}

func (m *model) cut(a, b int) api.Errno {
	if !m.near[a][b] {
		return api.ErrNone
	}
	delete(m.near[a], b)
	delete(m.near[b], a)
	return api.OK
}

// change makes a random call on both.
func (m *model) change(t *testing.T, f *lct.Forest, r *rand.Rand, spread int64) {
	t.Helper()
	a, b := r.IntN(len(m.keys)), r.IntN(len(m.keys))
	switch r.IntN(7) {
	case 0:
		m.keys[a] = r.Int64N(spread) - spread/2
		set(t, f, a, m.keys[a], api.OK)
	case 1:
		cut(t, f, a, b, m.cut(a, b))
	case 2:
		// An edge that there is, if there is one.
		for b = range len(m.keys) {
			if m.near[a][b] {
				break
			}
		}
		cut(t, f, a, b, m.cut(a, b))
	default:
		link(t, f, a, b, m.link(a, b))
	}
}

// ask compares one answer with the model.
func (m *model) ask(t *testing.T, f *lct.Forest, r *rand.Rand) {
	t.Helper()
	n := len(m.keys)
	a, b, c := r.IntN(n), r.IntN(n), r.IntN(n)
	ab := m.path(a, b)
	switch r.IntN(5) {
	case 0:
		path(t, f, a, b, ab...)
		back := f.Path(b, a)
		slices.Reverse(back)
		if !slices.Equal(back, ab) {
			t.Fatalf("the reverse of Path(%d, %d) is %v, expected %v", b, a, back, ab)
		}
	case 1:
		if ab == nil {
			first(t, f, a, b, 0, false)
			return
		}
		best := a
		for _, v := range ab {
			if m.keys[v] < m.keys[best] || m.keys[v] == m.keys[best] && v < best {
				best = v
			}
		}
		first(t, f, a, b, best, true)
	case 2:
		m.askMeet(t, f, a, b, c)
	case 3:
		m.askSizes(t, f)
	case 4:
		if f.Key(a) != m.keys[a] {
			t.Fatalf("Key(%d) = %d, expected %d", a, f.Key(a), m.keys[a])
		}
	}
}

// askMeet looks for the vertex that lies on all three paths.
func (m *model) askMeet(t *testing.T, f *lct.Forest, a, b, c int) {
	t.Helper()
	ab, bc, ca := m.path(a, b), m.path(b, c), m.path(c, a)
	for _, v := range ab {
		if slices.Contains(bc, v) && slices.Contains(ca, v) {
			meet(t, f, a, b, c, v, true)
			return
		}
	}
	meet(t, f, a, b, c, 0, false)
}

func (m *model) askSizes(t *testing.T, f *lct.Forest) {
	t.Helper()
	want := make([]int, len(m.keys))
	degrees := 0
	for a := range want {
		degrees += len(m.near[a])
		for b := range want {
			if m.path(a, b) != nil {
				want[a]++
			}
		}
	}
	// P12.7
	sizes(t, f, len(m.keys)-degrees/2, want...)
}

// P12.2 to P12.7
func TestRandomCalls(t *testing.T) {
	for seed := range uint64(80) {
		r := rand.New(rand.NewPCG(seed, 12))
		n := 1 + r.IntN(24)
		f, m := made(t, n), newModel(n)
		spread := []int64{3, 100, math.MaxInt64}[seed%3]
		for range 250 {
			m.change(t, f, r, spread)
			for range r.IntN(4) {
				m.ask(t, f, r)
			}
			if r.IntN(40) == 0 {
				c, mc := f.Copy(), m.copy()
				m.change(t, f, r, spread)
				f, m = c, mc
			}
		}
		m.askAll(t, f)
	}
}

// askAll compares all answers with the model.
func (m *model) askAll(t *testing.T, f *lct.Forest) {
	t.Helper()
	for a := range m.keys {
		for b := range m.keys {
			path(t, f, a, b, m.path(a, b)...)
			m.askMeet(t, f, a, b, (a+b)/2)
		}
	}
	m.askSizes(t, f)
}

// P12.7
func TestOrderAndCutAndLink(t *testing.T) {
	for seed := range uint64(30) {
		r := rand.New(rand.NewPCG(seed, 7))
		n := 2 + r.IntN(20)
		m := newModel(n)
		var edges [][2]int
		for b := 1; b < n; b++ {
			if a := r.IntN(b + 1); a < b {
				edges = append(edges, [2]int{a, b})
				m.link(a, b)
			}
		}
		f := made(t, n)
		for _, k := range r.Perm(len(edges)) {
			link(t, f, edges[k][1], edges[k][0], api.OK)
		}
		m.askAll(t, f)
		for _, edge := range edges {
			cut(t, f, edge[0], edge[1], api.OK)
			link(t, f, edge[0], edge[1], api.OK)
		}
		m.askAll(t, f)
	}
}

// P12.3 to P12.6: as many vertices as there can be, in a long path and a wide star.
func TestManyVertices(t *testing.T) {
	const n = api.MaxSlots
	f := made(t, n)
	for v := range n - 1 {
		link(t, f, v, v+1, api.OK)
	}
	if f.Size(0) != n || f.Trees() != 1 || f.Dist(0, n-1) != n-1 || !slices.IsSorted(f.Path(3, n-1)) {
		t.Errorf("Size %d, Trees %d, Dist %d", f.Size(0), f.Trees(), f.Dist(0, n-1))
	}
	for v := range n - 2 {
		if f.Dist(v, n-1) != n-1-v {
			t.Fatalf("Dist(%d, %d) = %d", v, n-1, f.Dist(v, n-1))
		}
	}
	meet(t, f, 0, n-1, 777, 777, true)
	for v := range n - 1 {
		cut(t, f, v+1, v, api.OK)
	}
	for v := 1; v < n; v++ {
		link(t, f, v, 0, api.OK)
	}
	for v := 3; v < n; v++ {
		meet(t, f, 1, v-1, v, 0, true)
	}
	if f.Size(n-1) != n || f.Trees() != 1 {
		t.Errorf("Size %d, Trees %d", f.Size(n-1), f.Trees())
	}
}

// P12.2, P12.5: keys that change in the middle of long paths.
func TestKeysOnLongPaths(t *testing.T) {
	for seed := range uint64(10) {
		r := rand.New(rand.NewPCG(seed, 5))
		n := 100 + r.IntN(100)
		f, m := made(t, n), newModel(n)
		order := r.Perm(n)
		for k := 1; k < n; k++ {
			link(t, f, order[k], order[k-1], m.link(order[k], order[k-1]))
		}
		for range 400 {
			k := r.IntN(n)
			m.keys[k] = r.Int64N(1000) - 500
			set(t, f, k, m.keys[k], api.OK)
			i, j := r.IntN(n), r.IntN(n)
			want := slices.MinFunc(order[min(i, j):max(i, j)+1], func(a, b int) int {
				return cmp.Or(cmp.Compare(m.keys[a], m.keys[b]), cmp.Compare(a, b))
			})
			first(t, f, order[i], order[j], want, true)
		}
	}
}
