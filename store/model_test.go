package store_test

import (
	"cmp"
	"math/rand/v2"
	"slices"
	"testing"

	"seepage/api"
	"seepage/store"
)

// numbers gives out numbers as an arena does: the one that was taken back last,
// or else the smallest one that was never given out.
type numbers struct {
	back []int
	next int
}

func (n *numbers) give() int {
	if last := len(n.back) - 1; last >= 0 {
		i := n.back[last]
		n.back = n.back[:last]
		return i
	}
	n.next++
	return n.next - 1
}

// model is a store as the chapter describes it: the list of its edges, by their
// sequence numbers.
type model struct {
	verts, edges   int
	last           uint64
	list           []api.Live
	slots, indexes numbers
	index          map[uint64]int
}

func (m *model) check(r api.Rec) api.Errno {
	ids := map[uint64]bool{r.U: true, r.V: true}
	for _, edge := range m.list {
		ids[edge.Rec.U], ids[edge.Rec.V] = true, true
	}
	switch {
	case r.U == r.V:
		return api.ErrLoop
	case len(m.list) == m.edges:
		return api.ErrEdges
	case len(ids) > m.verts:
		return api.ErrVerts
	default:
		return api.OK
	}
}

func (m *model) insert(r api.Rec, exp int64) api.Live {
	m.last++
	edge := api.Live{Slot: m.slots.give(), Seq: m.last, Rec: r, Exp: exp}
	m.list = append(m.list, edge)
	for _, id := range []uint64{r.U, r.V} {
		if _, there := m.index[id]; !there {
			m.index[id] = m.indexes.give()
		}
	}
	return edge
}

// at returns the place of the edge with a slot in the list, or -1.
func (m *model) at(slot int) int {
	return slices.IndexFunc(m.list, func(edge api.Live) bool { return edge.Slot == slot })
}

func (m *model) incident(id uint64) []int {
	var slots []int
	for _, edge := range m.list {
		if edge.Rec.U == id || edge.Rec.V == id {
			slots = append(slots, edge.Slot)
		}
	}
	return slots
}

func (m *model) remove(slot int) api.Live {
	at := m.at(slot)
	edge := m.list[at]
	m.list = slices.Delete(m.list, at, at+1)
	m.slots.back = append(m.slots.back, slot)
	for _, id := range []uint64{edge.Rec.U, edge.Rec.V} {
		if m.incident(id) == nil {
			m.indexes.back = append(m.indexes.back, m.index[id])
			delete(m.index, id)
		}
	}
	return edge
}

// compare compares all that a store shows with the model.
func (m *model) compare(t *testing.T, s *store.Store) {
	t.Helper()
	var ids []uint64
	total := 0
	for id := range uint64(12) {
		at, there := m.index[id]
		index(t, s, id, at, there)
		incident(t, s, id, m.incident(id)...)
		total += len(s.Incident(id))
		if there {
			ids = append(ids, id)
		}
	}
	if total != 2*s.Len() {
		t.Fatalf("%d incident edges, Len %d", total, s.Len())
	}
	has(t, s, m.list, ids...)
	for i := -1; i <= max(m.verts, m.edges); i++ {
		id, ok := s.ID(i)
		if at, there := m.index[id]; ok != (there && at == i) && (ok || id != 0) {
			t.Fatalf("ID(%d) = %d, %t", i, id, ok)
		}
		edge, ok := s.Get(i)
		if at := m.at(i); ok != (at >= 0) || ok && edge != m.list[at] || !ok && edge != (api.Live{}) {
			t.Fatalf("Get(%d) = %v, %t", i, edge, ok)
		}
	}
}

// P34.2 to P34.6
func TestByModel(t *testing.T) {
	for seed := range uint64(120) {
		r := rand.New(rand.NewPCG(seed, 34))
		m := &model{verts: r.IntN(12), edges: r.IntN(14), last: r.Uint64N(100), index: map[uint64]int{}}
		s, e := store.From(m.verts, m.edges, m.last)
		if e != api.OK {
			t.Fatalf("From: error %d", e)
		}
		for range 80 {
			record := rec(r.Uint64N(12), r.Uint64N(12), r.Int64N(20), r.Int64N(20))
			switch slot := r.IntN(m.edges+3) - 1; {
			case r.IntN(2) == 0 && m.check(record) != api.OK:
				refused(t, s, record, m.check(record))
			case r.IntN(2) == 0 && m.check(record) == api.OK:
				edge := m.insert(record, r.Int64N(99))
				insert(t, s, record, edge.Exp, edge.Slot, edge.Seq)
			case slot < 0 || slot >= m.edges:
				remove(t, s, slot, api.Live{}, api.ErrRange)
			case m.at(slot) < 0:
				remove(t, s, slot, api.Live{}, api.ErrNone)
			default:
				remove(t, s, slot, m.remove(slot), api.OK)
			}
			m.compare(t, s)
			if r.IntN(8) == 0 {
				s = s.Copy()
			}
		}
	}
}

// P34.6: inserting and removing changes nothing but the sequence numbers.
func TestInsertAndRemove(t *testing.T) {
	for seed := range uint64(50) {
		r := rand.New(rand.NewPCG(seed, 346))
		s := made(t, 10, 10)
		for range r.IntN(8) {
			s.Insert(rec(r.Uint64N(6), 6+r.Uint64N(3), 0, 0), 9)
		}
		edges, ids := s.List(), s.IDs()
		edge, e := s.Insert(rec(r.Uint64N(8), 8+r.Uint64N(2), 1, 1), 9)
		if e != api.OK {
			t.Fatalf("Insert: error %d", e)
		}
		remove(t, s, edge.Slot, edge, api.OK)
		has(t, s, edges, ids...)
		insert(t, s, rec(1, 9, 0, 0), 9, edge.Slot, edge.Seq+1)
		if !slices.IsSortedFunc(s.List(), func(a, b api.Live) int { return cmp.Compare(a.Seq, b.Seq) }) {
			t.Fatalf("%v", s.List())
		}
	}
}
