package store_test

import (
	"math"
	"slices"
	"testing"

	"seepage/api"
	"seepage/store"
)

const most = math.MaxInt64

func made(t *testing.T, verts, edges int) *store.Store {
	t.Helper()
	s, e := store.New(verts, edges)
	if s == nil || e != api.OK {
		t.Fatalf("New(%d, %d) = %v, error %d", verts, edges, s, e)
	}
	return s
}

func rec(u, v uint64, w, at int64) api.Rec {
	return api.Rec{U: u, V: v, W: w, T: at}
}

// insert expects that an edge is inserted with this slot and sequence number.
func insert(t *testing.T, s *store.Store, r api.Rec, exp int64, slot int, seq uint64) {
	t.Helper()
	if e := s.Check(r); e != api.OK {
		t.Errorf("Check(%v): error %d", r, e)
	}
	want := api.Live{Slot: slot, Seq: seq, Rec: r, Exp: exp}
	if got, e := s.Insert(r, exp); got != want || e != api.OK {
		t.Errorf("Insert(%v, %d) = %v, error %d; expected %v", r, exp, got, e, want)
	}
	if got, ok := s.Get(slot); got != want || !ok {
		t.Errorf("Get(%d) = %v, %t; expected %v", slot, got, ok, want)
	}
}

// refused expects an error of Check and Insert.
func refused(t *testing.T, s *store.Store, r api.Rec, want api.Errno) {
	t.Helper()
	if e := s.Check(r); e != want {
		t.Errorf("Check(%v): error %d, expected %d", r, e, want)
	}
	if got, e := s.Insert(r, 7); got != (api.Live{}) || e != want {
		t.Errorf("Insert(%v) = %v, error %d, expected %d", r, got, e, want)
	}
}

func remove(t *testing.T, s *store.Store, slot int, want api.Live, we api.Errno) {
	t.Helper()
	if got, e := s.Remove(slot); got != want || e != we {
		t.Errorf("Remove(%d) = %v, error %d; expected %v, error %d", slot, got, e, want, we)
	}
	if got, ok := s.Get(slot); ok || got != (api.Live{}) {
		t.Errorf("Get(%d) = %v, %t", slot, got, ok)
	}
}

func index(t *testing.T, s *store.Store, id uint64, want int, wok bool) {
	t.Helper()
	if got, ok := s.Index(id); got != want || ok != wok {
		t.Errorf("Index(%d) = %d, %t; expected %d, %t", id, got, ok, want, wok)
	}
	if !wok {
		return
	}
	if got, ok := s.ID(want); got != id || !ok {
		t.Errorf("ID(%d) = %d, %t; expected %d", want, got, ok, id)
	}
}

func incident(t *testing.T, s *store.Store, id uint64, want ...int) {
	t.Helper()
	if got := s.Incident(id); !slices.Equal(got, want) {
		t.Errorf("Incident(%d) = %v, expected %v", id, got, want)
	}
}

// has expects that a store has these edges and vertices.
func has(t *testing.T, s *store.Store, edges []api.Live, ids ...uint64) {
	t.Helper()
	if got := s.List(); !slices.Equal(got, edges) || s.Len() != len(edges) {
		t.Errorf("List %v, Len %d; expected %v", got, s.Len(), edges)
	}
	if got := s.IDs(); !slices.Equal(got, ids) || s.Verts() != len(ids) {
		t.Errorf("IDs %v, Verts %d; expected %v", got, s.Verts(), ids)
	}
}

// P34.2 to P34.5: the chapter's examples.
func TestExamples(t *testing.T) {
	s := made(t, 3, 2)
	insert(t, s, rec(1, 2, 5, 0), 10, 0, 1)
	index(t, s, 1, 0, true)
	index(t, s, 2, 1, true)
	insert(t, s, rec(2, 9, 1, 4), 14, 1, 2)
	index(t, s, 9, 2, true)
	refused(t, s, rec(1, 1, 0, 0), api.ErrLoop)
	refused(t, s, rec(1, 9, 7, 5), api.ErrEdges)
	first := api.Live{Slot: 0, Seq: 1, Rec: rec(1, 2, 5, 0), Exp: 10}
	second := api.Live{Slot: 1, Seq: 2, Rec: rec(2, 9, 1, 4), Exp: 14}
	has(t, s, []api.Live{first, second}, 1, 2, 9)
	remove(t, s, 0, first, api.OK)
	has(t, s, []api.Live{second}, 2, 9)
	refused(t, s, rec(3, 4, 0, 5), api.ErrVerts)
	insert(t, s, rec(7, 9, 0, 5), 15, 0, 3)
	index(t, s, 7, 0, true)
	incident(t, s, 9, 1, 0)
	remove(t, s, 2, api.Live{}, api.ErrRange)
	index(t, s, 1, 0, false)
	has(t, s, []api.Live{second, {Slot: 0, Seq: 3, Rec: rec(7, 9, 0, 5), Exp: 15}}, 2, 7, 9)
}

// P34.1
func TestNew(t *testing.T) {
	for _, c := range [][2]int{{-1, 1}, {1, -1}, {-1, -1}, {api.MaxVerts + 1, 1}, {1, api.MaxEdges + 1}, {math.MinInt, 1}, {1, math.MinInt}, {math.MaxInt, 1}, {1, math.MaxInt}} {
		if s, e := store.New(c[0], c[1]); s != nil || e != api.ErrArg {
			t.Errorf("New(%d, %d) = %v, error %d", c[0], c[1], s, e)
		}
		if s, e := store.From(c[0], c[1], 5); s != nil || e != api.ErrArg {
			t.Errorf("From(%d, %d, 5) = %v, error %d", c[0], c[1], s, e)
		}
	}
	for _, last := range []uint64{1 << 63, 1<<63 + 1, math.MaxUint64} {
		if s, e := store.From(1, 1, last); s != nil || e != api.ErrArg {
			t.Errorf("From(1, 1, %d) = %v, error %d", last, s, e)
		}
	}
	for _, last := range []uint64{0, 1, 41, most} {
		s, e := store.From(2, 3, last)
		if s == nil || e != api.OK {
			t.Fatalf("From(2, 3, %d) = %v, error %d", last, s, e)
		}
		has(t, s, nil)
		insert(t, s, rec(1, 2, 0, 0), 1, 0, last+1)
		insert(t, s, rec(2, 1, 0, 0), 1, 1, last+2)
	}
	has(t, made(t, api.MaxVerts, api.MaxEdges), nil)
}

// P34.2: the order of the errors, with no room for anything.
func TestErrors(t *testing.T) {
	for verts := range 4 {
		s := made(t, verts, 0)
		refused(t, s, rec(1, 1, 0, 0), api.ErrLoop)
		refused(t, s, rec(1, 2, 0, 0), api.ErrEdges)
	}
	for verts := range 2 {
		s := made(t, verts, 2)
		refused(t, s, rec(0, 0, 0, 0), api.ErrLoop)
		refused(t, s, rec(1, 2, 0, 0), api.ErrVerts)
		has(t, s, nil)
	}
	s := made(t, 3, 3)
	insert(t, s, rec(5, 0, 0, 0), 1, 0, 1)
	refused(t, s, rec(1, 2, 0, 0), api.ErrVerts)
	index(t, s, 1, 0, false)
	insert(t, s, rec(5, math.MaxUint64, 0, 0), 1, 1, 2)
	refused(t, s, rec(5, 2, 0, 0), api.ErrVerts)
	refused(t, s, rec(2, 5, 0, 0), api.ErrVerts)
	refused(t, s, rec(5, 5, 0, 0), api.ErrLoop)
	insert(t, s, rec(math.MaxUint64, 0, 0, 0), 1, 2, 3)
	refused(t, s, rec(1, 2, 0, 0), api.ErrEdges)
	refused(t, s, rec(0, 5, 0, 0), api.ErrEdges)
	refused(t, s, rec(2, 2, 0, 0), api.ErrLoop)
	for _, slot := range []int{-1, 3, math.MinInt, math.MaxInt} {
		remove(t, s, slot, api.Live{}, api.ErrRange)
	}
	remove(t, s, 1, api.Live{Slot: 1, Seq: 2, Rec: rec(5, math.MaxUint64, 0, 0), Exp: 1}, api.OK)
	remove(t, s, 1, api.Live{}, api.ErrNone)
	remove(t, made(t, 2, 2), 0, api.Live{}, api.ErrNone)
	remove(t, made(t, 2, 0), 0, api.Live{}, api.ErrRange)
}

// P34.2 to P34.4: the ends of a record are put and removed in their order, and
// parallel edges keep a vertex.
func TestOrder(t *testing.T) {
	s := made(t, 4, 4)
	insert(t, s, rec(9, 3, -1, -5), math.MinInt64, 0, 1)
	index(t, s, 9, 0, true)
	index(t, s, 3, 1, true)
	insert(t, s, rec(3, 9, math.MinInt64, most), most, 1, 2)
	incident(t, s, 3, 0, 1)
	incident(t, s, 9, 0, 1)
	incident(t, s, 1)
	remove(t, s, 0, api.Live{Slot: 0, Seq: 1, Rec: rec(9, 3, -1, -5), Exp: math.MinInt64}, api.OK)
	incident(t, s, 9, 1)
	index(t, s, 9, 0, true)
	remove(t, s, 1, api.Live{Slot: 1, Seq: 2, Rec: rec(3, 9, math.MinInt64, most), Exp: most}, api.OK)
	has(t, s, nil)
	// 3 was removed first, and then 9, whose index is the next one; the slot 1 is the
	// next one, too.
	insert(t, s, rec(8, 7, 0, 0), 0, 1, 3)
	index(t, s, 8, 0, true)
	index(t, s, 7, 1, true)
	insert(t, s, rec(8, 6, 0, 0), 0, 0, 4)
	index(t, s, 6, 2, true)
	incident(t, s, 8, 1, 0)
	if id, ok := s.ID(3); id != 0 || ok {
		t.Errorf("ID(3) = %d, %t", id, ok)
	}
	if id, ok := s.ID(-1); id != 0 || ok {
		t.Errorf("ID(-1) = %d, %t", id, ok)
	}
}

// P34.5: a store at its limits.
func TestFull(t *testing.T) {
	s := made(t, api.MaxVerts, api.MaxEdges)
	for i := range api.MaxEdges {
		insert(t, s, rec(uint64(i%api.MaxVerts), uint64((i+1)%api.MaxVerts), 0, 0), 1, i, uint64(i)+1)
	}
	refused(t, s, rec(1, 2, 0, 0), api.ErrEdges)
	if s.Len() != api.MaxEdges || s.Verts() != api.MaxVerts {
		t.Errorf("Len %d, Verts %d", s.Len(), s.Verts())
	}
	for i, edge := range s.List() {
		if edge.Seq != uint64(i)+1 {
			t.Fatalf("%v at %d", edge, i)
		}
		if _, e := s.Remove(edge.Slot); e != api.OK {
			t.Fatalf("Remove(%d): error %d", edge.Slot, e)
		}
	}
	has(t, s, nil)
}

// P34.5, R8
func TestCopy(t *testing.T) {
	a := made(t, 5, 4)
	insert(t, a, rec(1, 2, 0, 0), 1, 0, 1)
	insert(t, a, rec(2, 3, 0, 0), 2, 1, 2)
	insert(t, a, rec(2, 4, 0, 0), 3, 2, 3)
	first := api.Live{Slot: 0, Seq: 1, Rec: rec(1, 2, 0, 0), Exp: 1}
	remove(t, a, 0, first, api.OK)
	b := a.Copy()
	insert(t, a, rec(2, 7, 0, 0), 4, 0, 4)
	insert(t, b, rec(8, 2, 0, 0), 5, 0, 4)
	index(t, a, 7, 0, true)
	index(t, b, 8, 0, true)
	refused(t, b, rec(10, 11, 0, 0), api.ErrVerts)
	remove(t, a, 1, api.Live{Slot: 1, Seq: 2, Rec: rec(2, 3, 0, 0), Exp: 2}, api.OK)
	incident(t, a, 2, 2, 0)
	incident(t, b, 2, 1, 2, 0)
	has(t, a, []api.Live{{Slot: 2, Seq: 3, Rec: rec(2, 4, 0, 0), Exp: 3}, {Slot: 0, Seq: 4, Rec: rec(2, 7, 0, 0), Exp: 4}}, 2, 4, 7)
	insert(t, a, rec(2, 9, 0, 0), 6, 1, 5)
	insert(t, b, rec(2, 3, 0, 0), 6, 3, 5)
	refused(t, b, rec(2, 3, 0, 0), api.ErrEdges)
	c, edges := b.Copy(), b.List()
	remove(t, b, 2, edges[1], api.OK)
	incident(t, b, 2, 1, 0, 3)
	incident(t, c, 2, 1, 2, 0, 3)
	remove(t, c, 1, edges[0], api.OK)
	incident(t, b, 2, 1, 0, 3)
	incident(t, c, 2, 2, 0, 3)
}

// R4
func TestMemory(t *testing.T) {
	s := made(t, 3, 3)
	insert(t, s, rec(1, 2, 0, 0), 1, 0, 1)
	insert(t, s, rec(2, 1, 0, 0), 1, 1, 2)
	want := s.List()
	clear(s.List())
	clear(s.IDs())
	clear(append(s.Incident(1), 0))
	incident(t, s, 1, 0, 1)
	has(t, s, want, 1, 2)
	kept := s.Incident(2)
	remove(t, s, 0, want[0], api.OK)
	if !slices.Equal(kept, []int{0, 1}) {
		t.Errorf("%v", kept)
	}
}

// R2
func TestNotValid(t *testing.T) {
	for _, s := range []*store.Store{nil, {}} {
		refused(t, s, rec(1, 1, 0, 0), api.ErrNil)
		refused(t, s, rec(1, 2, 0, 0), api.ErrNil)
		remove(t, s, -1, api.Live{}, api.ErrNil)
		remove(t, s, 0, api.Live{}, api.ErrNil)
		index(t, s, 0, 0, false)
		incident(t, s, 0)
		has(t, s, nil)
		if id, ok := s.ID(0); id != 0 || ok || s.Copy() != nil {
			t.Errorf("ID(0) = %d, %t, Copy %v", id, ok, s.Copy())
		}
	}
}
