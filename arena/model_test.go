package arena_test

import (
	"math/rand/v2"
	"slices"
	"testing"

	"seepage/api"
	"seepage/arena"
)

// model is an arena as the chapter defines it: a stack of returned slots, and
// the number of those that are not fresh.
type model struct {
	slots, begun int
	returned     []int
	used         []bool
	times        []uint64
}

func newModel(slots int) *model {
	return &model{slots: slots, used: make([]bool, slots), times: make([]uint64, slots)}
}

func (m *model) next() (int, bool) {
	if n := len(m.returned); n > 0 {
		return m.returned[n-1], true
	}
	if m.begun < m.slots {
		return m.begun, true
	}
	return 0, false
}

func (m *model) alloc() (int, api.Errno) {
	i, ok := m.next()
	if !ok {
		return 0, api.ErrFull
	}
	if n := len(m.returned); n > 0 {
		m.returned = m.returned[:n-1]
	} else {
		m.begun++
	}
	m.used[i] = true
	m.times[i]++
	return i, api.OK
}

func (m *model) free(i int) api.Errno {
	if i < 0 || i >= m.slots {
		return api.ErrRange
	}
	if !m.used[i] {
		return api.ErrNone
	}
	m.used[i] = false
	m.returned = append(m.returned, i)
	return api.OK
}

func (m *model) list() []int {
	var l []int
	for i, u := range m.used {
		if u {
			l = append(l, i)
		}
	}
	return l
}

// shown is all that an arena shows, but for the order of its free slots.
type shown struct {
	len, cap, next int
	ok             bool
	list           []int
	times          []uint64
}

func state(a *arena.Arena) shown {
	s := shown{len: a.Len(), cap: a.Cap(), list: a.List()}
	s.next, s.ok = a.Next()
	for i := range a.Cap() {
		s.times = append(s.times, a.Times(i))
		if a.Used(i) != slices.Contains(s.list, i) {
			s.list = append(s.list, i)
		}
	}
	return s
}

func checkState(t *testing.T, a *arena.Arena, want shown) {
	t.Helper()
	got := state(a)
	if got.len != want.len || got.cap != want.cap || got.next != want.next || got.ok != want.ok {
		t.Fatalf("%+v, expected %+v", got, want)
	}
	if !slices.Equal(got.list, want.list) || !slices.Equal(got.times, want.times) {
		t.Fatalf("%+v, expected %+v", got, want)
	}
}

func (m *model) shown() shown {
	l := m.list()
	s := shown{len: len(l), cap: m.slots, list: l, times: m.times}
	s.next, s.ok = m.next()
	return s
}

// P2.2 to P2.5
func TestRandomCalls(t *testing.T) {
	for _, slots := range []int{1, 2, 3, 8, 63, 64, 65, 130, 200} {
		for seed := range uint64(20) {
			r := rand.New(rand.NewPCG(seed, uint64(slots)))
			a, m := made(t, slots), newModel(slots)
			bias := r.IntN(10)
			for range 300 {
				if r.IntN(10) <= bias {
					want, we := m.alloc()
					alloc(t, a, want, we)
				} else {
					i := r.IntN(slots+2) - 1
					free(t, a, i, m.free(i))
				}
				if r.IntN(8) == 0 {
					a = a.Copy()
				}
				checkState(t, a, m.shown())
			}
		}
	}
}

// P2.6
func TestSlotsComeBackInTheOppositeOrder(t *testing.T) {
	for seed := range uint64(20) {
		r := rand.New(rand.NewPCG(seed, 6))
		slots := 1 + r.IntN(150)
		begun := r.IntN(slots + 1)
		a := made(t, slots)
		for i := range begun {
			alloc(t, a, i, api.OK)
		}
		order := r.Perm(begun)
		for _, i := range order {
			free(t, a, i, api.OK)
			next(t, a, i, true)
		}
		slices.Reverse(order)
		for _, i := range order {
			alloc(t, a, i, api.OK)
		}
		for i := begun; i < slots; i++ {
			alloc(t, a, i, api.OK)
		}
		alloc(t, a, 0, api.ErrFull)
	}
}
