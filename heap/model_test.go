package heap_test

import (
	"math/rand/v2"
	"slices"
	"testing"

	"seepage/api"
	"seepage/heap"
)

// before is the order of entries as the chapter defines it.
func before(a, b api.Entry) bool {
	return a.Key < b.Key || a.Key == b.Key && a.Index < b.Index
}

// model contains the keys of the indexes that are there.
type model struct {
	slots int
	keys  map[int]int64
}

// call makes a call on the heap and on the model, and compares the errors.
func (m *model) call(t *testing.T, h *heap.Heap, kind, i int, key int64) {
	t.Helper()
	_, have := m.keys[i]
	want := api.OK
	switch {
	case i < 0 || i >= m.slots:
		want = api.ErrRange
	case kind == 0 && have:
		want = api.ErrHave
	case kind != 0 && !have:
		want = api.ErrNone
	}
	switch kind {
	case 0:
		checkErr(t, "Push", i, h.Push(i, key), want)
	case 1:
		checkErr(t, "Change", i, h.Change(i, key), want)
	case 2:
		checkErr(t, "Remove", i, h.Remove(i), want)
	}
	if want == api.OK {
		m.keys[i] = key
		if kind == 2 {
			delete(m.keys, i)
		}
	}
}

func (m *model) list() []api.Entry {
	var l []api.Entry
	for i := range m.slots {
		if key, ok := m.keys[i]; ok {
			l = append(l, api.Entry{Index: i, Key: key})
		}
	}
	slices.SortStableFunc(l, func(a, b api.Entry) int {
		if before(a, b) {
			return -1
		}
		return 1
	})
	return l
}

// compare compares all that a heap shows with the model.
func (m *model) compare(t *testing.T, h *heap.Heap) {
	t.Helper()
	want := m.list()
	if got := h.List(); !slices.Equal(got, want) || h.Len() != len(want) {
		t.Fatalf("List %v, Len %d; expected %v", got, h.Len(), want)
	}
	min, ok := h.Min()
	if len(want) > 0 {
		checkFirst(t, "Min", min, ok, want[0], true)
	} else {
		checkFirst(t, "Min", min, ok, api.Entry{}, false)
	}
	for i := -1; i <= m.slots; i++ {
		key, ok := m.keys[i]
		if got, gok := h.Key(i); got != key || gok != ok {
			t.Fatalf("Key(%d) = %d, %t; expected %d, %t", i, got, gok, key, ok)
		}
	}
}

// P4.2 to P4.6
func TestRandomCalls(t *testing.T) {
	for _, slots := range []int{1, 2, 3, 5, 16, 60, 300} {
		for seed := range uint64(12) {
			r := rand.New(rand.NewPCG(seed, uint64(slots)))
			h, m := made(t, slots), &model{slots: slots, keys: map[int]int64{}}
			spread := int64(1 + r.IntN(50))
			for range 150 {
				m.call(t, h, r.IntN(3), r.IntN(slots+2)-1, r.Int64N(spread)-spread/2)
				if r.IntN(2) == 0 {
					m.call(t, h, 0, r.IntN(slots), r.Int64N(spread))
				}
				if first, ok := h.Min(); ok && r.IntN(8) == 0 {
					got, gok := h.Pop()
					checkFirst(t, "Pop", got, gok, first, true)
					delete(m.keys, first.Index)
				}
				m.compare(t, h)
			}
			drain(t, h.Copy())
			m.compare(t, h)
		}
	}
}

// drain pops all entries; P4.6.
func drain(t *testing.T, h *heap.Heap) {
	t.Helper()
	for _, want := range h.List() {
		got, ok := h.Pop()
		checkFirst(t, "Pop", got, ok, want, true)
	}
	got, ok := h.Pop()
	checkFirst(t, "Pop", got, ok, api.Entry{}, false)
}

// P4.5, R8
func TestCopy(t *testing.T) {
	for seed := range uint64(20) {
		r := rand.New(rand.NewPCG(seed, 5))
		h, m := made(t, 300), &model{slots: 300, keys: map[int]int64{}}
		for range 200 {
			m.call(t, h, 0, r.IntN(300), r.Int64N(30))
		}
		c, mc := h.Copy(), &model{slots: 300, keys: map[int]int64{}}
		for i, key := range m.keys {
			mc.keys[i] = key
		}
		for range 100 {
			m.call(t, h, r.IntN(3), r.IntN(300), r.Int64N(30))
			mc.call(t, c, r.IntN(3), r.IntN(302)-1, r.Int64N(30))
		}
		m.compare(t, h)
		mc.compare(t, c)
	}
}

// P4.6
func TestOrderOfTheCallsDoesNotMatter(t *testing.T) {
	for seed := range uint64(20) {
		r := rand.New(rand.NewPCG(seed, 6))
		n := 1 + r.IntN(80)
		h, other := made(t, n), made(t, n)
		for _, i := range r.Perm(n) {
			h.Push(i, int64(i%7))
		}
		for _, i := range r.Perm(n) {
			other.Push(i, r.Int64N(20)-10)
		}
		for _, i := range r.Perm(n) {
			other.Change(i, int64(i%7))
		}
		if !slices.Equal(h.List(), other.List()) {
			t.Fatalf("%v and %v", h.List(), other.List())
		}
		drain(t, h)
		drain(t, other)
	}
}
