package forest_test

import (
	"math"
	"slices"
	"testing"

	"seepage/api"
	"seepage/forest"
)

const (
	least = math.MinInt64
	most  = math.MaxInt64
)

func made(t *testing.T, verts, edges int) *forest.Forest {
	t.Helper()
	f, e := forest.New(verts, edges)
	if f == nil || e != api.OK {
		t.Fatalf("New(%d, %d) = %v, error %d", verts, edges, f, e)
	}
	return f
}

func add(t *testing.T, f *forest.Forest, slot, a, b int, exp int64, want api.Errno) {
	t.Helper()
	if e := f.Add(slot, a, b, exp); e != want {
		t.Errorf("Add(%d, %d, %d, %d): error %d, expected %d", slot, a, b, exp, e, want)
	}
}

func expire(t *testing.T, f *forest.Forest, want int, wok bool) {
	t.Helper()
	if got, ok := f.Expire(); got != want || ok != wok {
		t.Errorf("Expire = %d, %t; expected %d, %t", got, ok, want, wok)
	}
}

func connected(t *testing.T, f *forest.Forest, a, b int, want bool) {
	t.Helper()
	if got := f.Connected(a, b); got != want {
		t.Errorf("Connected(%d, %d) = %t", a, b, got)
	}
}

func until(t *testing.T, f *forest.Forest, a, b int, want int64, wok bool) {
	t.Helper()
	if got, ok := f.Until(a, b); got != want || ok != wok {
		t.Errorf("Until(%d, %d) = %d, %t; expected %d, %t", a, b, got, ok, want, wok)
	}
}

func size(t *testing.T, f *forest.Forest, a, want int) {
	t.Helper()
	if got := f.Size(a); got != want {
		t.Errorf("Size(%d) = %d, expected %d", a, got, want)
	}
}

// has expects these numbers of components and edges, and these tree edges.
func has(t *testing.T, f *forest.Forest, count, length int, edges ...int) {
	t.Helper()
	if f.Count() != count || f.Len() != length {
		t.Errorf("Count %d, Len %d; expected %d, %d", f.Count(), f.Len(), count, length)
	}
	if got := f.Edges(); !slices.Equal(got, edges) {
		t.Errorf("Edges = %v, expected %v", got, edges)
	}
	for slot := -2; slot < 20; slot++ {
		if got := f.Tree(slot); got != slices.Contains(edges, slot) {
			t.Errorf("Tree(%d) = %t", slot, got)
		}
	}
}

// P36.2 to P36.6: the chapter's examples.
func TestExamples(t *testing.T) {
	f := made(t, 4, 5)
	has(t, f, 4, 0)
	add(t, f, 0, 0, 1, 10, api.OK)
	add(t, f, 1, 1, 2, 14, api.OK)
	add(t, f, 2, 0, 2, 16, api.OK)
	add(t, f, 2, 0, 3, 9, api.ErrHave)
	add(t, f, 3, 3, 3, 1, api.ErrLoop)
	add(t, f, 5, 0, 1, 1, api.ErrRange)
	has(t, f, 2, 3, 1, 2)
	size(t, f, 0, 3)
	until(t, f, 0, 1, 14, true)
	until(t, f, 0, 2, 16, true)
	until(t, f, 0, 0, 0, false)
	until(t, f, 0, 3, 0, false)
	expire(t, f, 0, true)
	expire(t, f, 1, true)
	connected(t, f, 0, 1, false)
	connected(t, f, 0, 2, true)
	has(t, f, 3, 1, 2)
	expire(t, f, 2, true)
	expire(t, f, 0, false)
	has(t, f, 4, 0)
}

// P36.1
func TestNew(t *testing.T) {
	for _, c := range [][2]int{{-1, 1}, {1, -1}, {-1, -1}, {api.MaxVerts + 1, 1}, {1, api.MaxEdges + 1}, {math.MinInt, 1}, {1, math.MinInt}, {math.MaxInt, 1}, {1, math.MaxInt}} {
		if f, e := forest.New(c[0], c[1]); f != nil || e != api.ErrArg {
			t.Errorf("New(%d, %d) = %v, error %d", c[0], c[1], f, e)
		}
	}
	f := made(t, 0, 0)
	has(t, f, 0, 0)
	add(t, f, 0, 0, 1, 1, api.ErrRange)
	expire(t, f, 0, false)
	f = made(t, 0, 3)
	has(t, f, 0, 0)
	add(t, f, 0, 0, 0, 1, api.ErrRange)
	f = made(t, 3, 0)
	has(t, f, 3, 0)
	add(t, f, 0, 0, 1, 1, api.ErrRange)
	size(t, f, 2, 1)
	connected(t, f, 2, 2, true)
}

// P36.2: the order of the errors.
func TestErrors(t *testing.T) {
	f := made(t, 3, 2)
	add(t, f, 1, 0, 2, 5, api.OK)
	for _, i := range []int{-1, 3, math.MinInt, math.MaxInt} {
		add(t, f, i, 0, 1, 5, api.ErrRange)
		add(t, f, 1, i, 1, 5, api.ErrRange)
		add(t, f, 1, 1, i, 5, api.ErrRange)
		add(t, f, 1, i, i, 5, api.ErrRange)
		add(t, f, 0, i, i, 5, api.ErrRange)
		add(t, f, i, 1, 1, 5, api.ErrRange)
	}
	add(t, f, 2, 0, 1, 5, api.ErrRange)
	add(t, f, 1, 1, 1, 5, api.ErrLoop)
	add(t, f, 1, 0, 1, 5, api.ErrHave)
	has(t, f, 2, 1, 1)
	for _, v := range []int{-1, 3, 4, -2, math.MinInt, math.MaxInt} {
		connected(t, f, v, v, false)
		connected(t, f, v, 0, false)
		connected(t, f, 0, v, false)
		size(t, f, v, 0)
		until(t, f, v, 0, 0, false)
		until(t, f, 0, v, 0, false)
		until(t, f, v, v, 0, false)
	}
	for _, slot := range []int{-1, 2, 3, 4, math.MinInt, math.MaxInt} {
		if f.Tree(slot) {
			t.Errorf("Tree(%d)", slot)
		}
	}
}

// P36.2: an edge that closes a cycle replaces the first one of it, or none; of
// equal times, the slots decide.
func TestCycles(t *testing.T) {
	f := made(t, 3, 8)
	add(t, f, 4, 0, 1, 5, api.OK)
	add(t, f, 5, 1, 2, 5, api.OK)
	add(t, f, 3, 0, 2, 5, api.OK)
	has(t, f, 1, 3, 4, 5)
	add(t, f, 6, 2, 0, 5, api.OK)
	has(t, f, 1, 4, 5, 6)
	add(t, f, 0, 0, 1, 6, api.OK)
	has(t, f, 1, 5, 0, 6)
	add(t, f, 7, 0, 1, 4, api.OK)
	has(t, f, 1, 6, 0, 6)
	expire(t, f, 7, true)
	expire(t, f, 3, true)
	expire(t, f, 4, true)
	expire(t, f, 5, true)
	has(t, f, 1, 2, 0, 6)
	until(t, f, 1, 2, 5, true)
	until(t, f, 0, 1, 6, true)
	// A slot is used again.
	add(t, f, 7, 1, 2, 9, api.OK)
	has(t, f, 1, 3, 0, 7)
	expire(t, f, 6, true)
	expire(t, f, 0, true)
	until(t, f, 0, 2, 0, false)
	expire(t, f, 7, true)
	has(t, f, 3, 0)
	// The lower slot is the first one here, as well.
	add(t, f, 1, 0, 1, 5, api.OK)
	add(t, f, 2, 0, 1, 5, api.OK)
	has(t, f, 2, 2, 2)
	add(t, f, 0, 1, 0, 5, api.OK)
	has(t, f, 2, 3, 2)
}

// P36.2, P36.6: times at the ends of the range.
func TestEnds(t *testing.T) {
	f := made(t, 3, 6)
	add(t, f, 5, 0, 1, most, api.OK)
	add(t, f, 3, 1, 2, most, api.OK)
	until(t, f, 0, 2, most, true)
	add(t, f, 4, 0, 2, most, api.OK)
	has(t, f, 1, 3, 4, 5)
	add(t, f, 0, 0, 2, least, api.OK)
	add(t, f, 1, 0, 2, least, api.OK)
	has(t, f, 1, 5, 4, 5)
	until(t, f, 0, 2, most, true)
	expire(t, f, 0, true)
	expire(t, f, 1, true)
	expire(t, f, 3, true)
	expire(t, f, 4, true)
	until(t, f, 0, 2, 0, false)
	add(t, f, 0, 1, 2, least, api.OK)
	until(t, f, 2, 0, least, true)
	has(t, f, 1, 2, 0, 5)
	expire(t, f, 0, true)
	expire(t, f, 5, true)
}

// P36.1 to P36.5: a forest at its limits.
func TestFull(t *testing.T) {
	f := made(t, api.MaxVerts, api.MaxEdges)
	for slot := range api.MaxEdges {
		add(t, f, slot, slot%api.MaxVerts, (slot+1)%api.MaxVerts, int64(slot), api.OK)
	}
	if f.Count() != 1 || f.Len() != api.MaxEdges || len(f.Edges()) != api.MaxVerts-1 || f.Size(7) != api.MaxVerts {
		t.Errorf("Count %d, Len %d, %d tree edges, Size %d", f.Count(), f.Len(), len(f.Edges()), f.Size(7))
	}
	until(t, f, 0, 1, api.MaxEdges-api.MaxVerts+1, true)
	for slot := range api.MaxEdges {
		expire(t, f, slot, true)
	}
	has(t, f, api.MaxVerts, 0)
}

// P36.6, R8
func TestCopy(t *testing.T) {
	a := made(t, 4, 4)
	add(t, a, 0, 0, 1, 3, api.OK)
	add(t, a, 1, 1, 2, 5, api.OK)
	b := a.Copy()
	add(t, a, 2, 2, 3, 7, api.OK)
	add(t, b, 2, 0, 2, 9, api.OK)
	add(t, b, 3, 0, 3, 1, api.OK)
	has(t, a, 1, 3, 0, 1, 2)
	has(t, b, 1, 4, 1, 2, 3)
	until(t, a, 0, 2, 3, true)
	until(t, b, 0, 2, 9, true)
	expire(t, b, 3, true)
	expire(t, b, 0, true)
	expire(t, a, 0, true)
	connected(t, a, 0, 1, false)
	connected(t, b, 0, 1, true)
	add(t, b, 4, 0, 1, 1, api.ErrRange)
	add(t, b, 0, 0, 4, 1, api.ErrRange)
	clear(b.Edges())
	has(t, b, 2, 2, 1, 2)
}

// R2
func TestNotValid(t *testing.T) {
	for _, f := range []*forest.Forest{nil, {}} {
		add(t, f, 0, 0, 1, 1, api.ErrNil)
		add(t, f, -1, 0, 0, 1, api.ErrNil)
		expire(t, f, 0, false)
		has(t, f, 0, 0)
		for _, v := range []int{-1, 0, 1} {
			connected(t, f, v, v, false)
			size(t, f, v, 0)
			until(t, f, v, 0, 0, false)
			until(t, f, 0, v, 0, false)
		}
		if f.Copy() != nil {
			t.Errorf("Copy = %v", f.Copy())
		}
	}
}
