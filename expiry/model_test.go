package expiry_test

import (
	"cmp"
	"math/rand/v2"
	"slices"
	"testing"

	"seepage/api"
	"seepage/expiry"
)

// model contains the times for which slots are scheduled.
type model map[int]int64

// ordered returns the slots that are due at a time, in order.
func (m model) ordered(now int64) []int {
	var l []int
	for slot, at := range m {
		if at <= now {
			l = append(l, slot)
		}
	}
	slices.SortFunc(l, func(a, b int) int { return cmp.Or(cmp.Compare(m[a], m[b]), cmp.Compare(a, b)) })
	return l
}

func (m model) compare(t *testing.T, s *expiry.Schedule, slots int) {
	t.Helper()
	length(t, s, len(m))
	if all := m.ordered(most); len(all) > 0 {
		next(t, s, api.Entry{Index: all[0], Key: m[all[0]]}, true)
	} else {
		next(t, s, api.Entry{}, false)
	}
	for slot := range slots {
		if at, there := m[slot]; there {
			left(t, s, slot, 3, at-3, api.OK)
		} else {
			left(t, s, slot, 3, 0, api.ErrNone)
		}
	}
}

// P35.2 to P35.8
func TestByModel(t *testing.T) {
	for seed := range uint64(200) {
		r := rand.New(rand.NewPCG(seed, 35))
		slots := 1 + r.IntN(20)
		s, m := made(t, slots), model{}
		for range 60 {
			slot, at := r.IntN(slots), r.Int64N(30)-10
			switch r.IntN(7) {
			case 0:
				want := api.ErrNone
				if _, there := m[slot]; there {
					want = api.OK
				}
				drop(t, s, slot, want)
				delete(m, slot)
			case 1:
				want := m.ordered(at)
				due(t, s, at, want...)
				for _, slot := range want {
					delete(m, slot)
				}
			case 2:
				s = s.Copy()
			default:
				set(t, s, slot, at, api.OK)
				m[slot] = at
			}
			m.compare(t, s, slots)
		}
		// The same state, by other calls.
		o := made(t, slots)
		for _, slot := range r.Perm(slots) {
			set(t, o, slot, r.Int64N(30), api.OK)
			if at, there := m[slot]; there {
				set(t, o, slot, at, api.OK)
			} else {
				drop(t, o, slot, api.OK)
			}
		}
		m.compare(t, o, slots)
		all := m.ordered(most)
		due(t, o, most, all...)
		due(t, s, most, all...)
	}
}

// P35.7, P35.9
func TestStepByStep(t *testing.T) {
	for seed := range uint64(200) {
		r := rand.New(rand.NewPCG(seed, 357))
		slots, by := 1+r.IntN(20), r.Int64N(1000)-500
		a, moved := made(t, slots), made(t, slots)
		for range r.IntN(30) {
			slot, at := r.IntN(slots), r.Int64N(40)
			set(t, a, slot, at, api.OK)
			set(t, moved, slot, at+by, api.OK)
		}
		b := a.Copy()
		first, later := r.Int64N(20), 20+r.Int64N(20)
		want := slices.Concat(b.Due(first), b.Due(later))
		due(t, moved, later+by, want...)
		due(t, a, later, want...)
		length(t, a, b.Len())
		if entry, ok := a.Next(); ok && entry.Key <= later {
			t.Errorf("%v is left at %d", entry, later)
		}
	}
}
