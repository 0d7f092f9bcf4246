package forest_test

import (
	"math/rand/v2"
	"testing"

	"seepage/api"
	"seepage/forest"
)

// edge is an edge of the model.
type edge struct {
	slot, a, b int
	exp        int64
}

// before reports whether an edge is before another one.
func (e edge) before(o edge) bool {
	return e.exp < o.exp || e.exp == o.exp && e.slot < o.slot
}

// model is a forest as the chapter defines it.
type model struct {
	verts int
	edges map[int]edge
}

// joined returns for each vertex whether it is connected with a by edges for which
// a function is true.
func (m *model) joined(a int, use func(e edge) bool) map[int]bool {
	reached := map[int]bool{a: true}
	for before := 0; before < len(reached); {
		before = len(reached)
		for _, e := range m.edges {
			if use(e) && (reached[e.a] || reached[e.b]) {
				reached[e.a], reached[e.b] = true, true
			}
		}
	}
	return reached
}

// trees returns the slots of the tree edges, by the definition.
func (m *model) trees() []int {
	var l []int
	for slot := range 20 {
		e, there := m.edges[slot]
		if there && !m.joined(e.a, func(o edge) bool { return e.before(o) })[e.b] {
			l = append(l, slot)
		}
	}
	return l
}

func (m *model) first() (edge, bool) {
	first, ok := edge{}, false
	for _, e := range m.edges {
		if !ok || e.before(first) {
			first, ok = e, true
		}
	}
	return first, ok
}

func (m *model) compare(t *testing.T, f *forest.Forest) {
	t.Helper()
	count := 0
	for a := range m.verts {
		all := m.joined(a, func(edge) bool { return true })
		size(t, f, a, len(all))
		lowest := a
		for b := range m.verts {
			connected(t, f, a, b, all[b])
			if all[b] {
				lowest = min(lowest, b)
			}
			if a == b || !all[b] {
				until(t, f, a, b, 0, false)
				continue
			}
			latest := int64(least)
			for _, e := range m.edges {
				if e.exp > latest && m.joined(a, func(o edge) bool { return o.exp >= e.exp })[b] {
					latest = e.exp
				}
			}
			until(t, f, a, b, latest, true)
		}
		if lowest == a {
			count++
		}
	}
	trees := m.trees()
	has(t, f, count, len(m.edges), trees...)
	if len(trees) != m.verts-count {
		t.Fatalf("%d tree edges, %d vertices, %d components", len(trees), m.verts, count)
	}
}

// P36.2 to P36.7
func TestByModel(t *testing.T) {
	for seed := range uint64(120) {
		r := rand.New(rand.NewPCG(seed, 36))
		m := &model{verts: 2 + r.IntN(5), edges: map[int]edge{}}
		slots := 1 + r.IntN(12)
		f := made(t, m.verts, slots)
		now := int64(0)
		for range 40 {
			now += r.Int64N(3)
			slot, a := r.IntN(slots), r.IntN(m.verts)
			e := edge{slot: slot, a: a, b: (a + 1 + r.IntN(m.verts-1)) % m.verts, exp: now}
			if seed%2 == 0 {
				e.exp = r.Int64N(8)
			}
			_, there := m.edges[slot]
			switch {
			case there && r.IntN(2) == 0:
				add(t, f, e.slot, e.a, e.b, e.exp, api.ErrHave)
			case there || r.IntN(5) == 0:
				first, ok := m.first()
				expire(t, f, first.slot, ok)
				delete(m.edges, first.slot)
			default:
				add(t, f, e.slot, e.a, e.b, e.exp, api.OK)
				m.edges[slot] = e
			}
			m.compare(t, f)
			if r.IntN(10) == 0 {
				f = f.Copy()
			}
		}
		// The same edges, in another order.
		o := made(t, m.verts, slots)
		for _, e := range m.edges {
			add(t, o, e.slot, e.b, e.a, e.exp, api.OK)
		}
		m.compare(t, o)
		for range len(m.edges) {
			first, _ := m.first()
			expire(t, o, first.slot, true)
			trees := m.trees()
			delete(m.edges, first.slot)
			if after := m.trees(); len(after) > len(trees) {
				t.Fatalf("%v became tree edges, before %v", after, trees)
			}
		}
		expire(t, o, 0, false)
	}
}
