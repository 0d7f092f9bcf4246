package intern_test

import (
	"maps"
	"math/rand/v2"
	"slices"
	"testing"

	"seepage/api"
	"seepage/intern"
)

// model is a table as the chapter defines it.
type model struct {
	slots, begun int
	index        map[uint64]int
	free         []int
	peak         int
}

func (m *model) put(id uint64) (int, bool, api.Errno) {
	if i, ok := m.index[id]; ok {
		return i, false, api.OK
	}
	if len(m.index) == m.slots {
		return 0, false, api.ErrFull
	}
	i := m.begun
	if n := len(m.free); n > 0 {
		i = m.free[n-1]
		m.free = m.free[:n-1]
	} else {
		m.begun++
	}
	m.index[id] = i
	m.peak = max(m.peak, len(m.index))
	return i, true, api.OK
}

func (m *model) del(id uint64) api.Errno {
	i, ok := m.index[id]
	if !ok {
		return api.ErrNone
	}
	delete(m.index, id)
	m.free = append(m.free, i)
	return api.OK
}

// compare compares all that a table shows with the model; P3.7, P3.8.
func (m *model) compare(t *testing.T, a *intern.Table, ids []uint64) {
	t.Helper()
	if a.Len() != len(m.index) {
		t.Fatalf("Len %d, expected %d", a.Len(), len(m.index))
	}
	if want := slices.Sorted(maps.Keys(m.index)); !slices.Equal(a.List(), want) {
		t.Fatalf("List %v, expected %v", a.List(), want)
	}
	ofIndex := map[int]uint64{}
	for _, id := range ids {
		i, ok := m.index[id]
		get(t, a, id, i, ok)
		if ok {
			ofIndex[i] = id
		}
	}
	for i := -1; i <= m.slots; i++ {
		id, ok := ofIndex[i]
		checkID(t, a, i, id, ok)
		if ok && i >= m.peak {
			t.Fatalf("the index %d, after at most %d ids", i, m.peak)
		}
	}
}

// idSets are ids of several kinds: close together, far apart, and mixed.
func idSets(r *rand.Rand, n int) [][]uint64 {
	near, far, high, mixed := make([]uint64, n), make([]uint64, n), make([]uint64, n), make([]uint64, n)
	for i := range n {
		near[i] = uint64(i)
		far[i] = uint64(i) << 52
		high[i] = -uint64(i + 1)
		mixed[i] = r.Uint64()
	}
	return [][]uint64{near, far, high, mixed}
}

// P3.2 to P3.8
func TestRandomCalls(t *testing.T) {
	for _, slots := range []int{1, 2, 4, 7, 32, 128} {
		for seed := range uint64(6) {
			r := rand.New(rand.NewPCG(seed, uint64(slots)))
			for _, ids := range idSets(r, slots+slots/4+1) {
				randomCalls(t, r, slots, ids)
			}
		}
	}
}

func randomCalls(t *testing.T, r *rand.Rand, slots int, ids []uint64) {
	t.Helper()
	a, m := made(t, slots), &model{slots: slots, index: map[uint64]int{}}
	bias := 3 + r.IntN(5)
	for range 4 * slots {
		id := ids[r.IntN(len(ids))]
		if r.IntN(10) < bias {
			i, added, e := m.put(id)
			put(t, a, id, i, added, e)
		} else {
			del(t, a, id, m.del(id))
		}
		if r.IntN(8) == 0 {
			a = a.Copy()
		}
		m.compare(t, a, ids)
	}
}

// P3.9
func TestReuse(t *testing.T) {
	for seed := range uint64(30) {
		r := rand.New(rand.NewPCG(seed, 9))
		slots := 1 + r.IntN(60)
		a := made(t, slots)
		ids := idSets(r, slots)[3]
		for i, id := range ids {
			put(t, a, id, i, true, api.OK)
		}
		k := r.IntN(slots)
		del(t, a, ids[k], api.OK)
		put(t, a, ids[k]+1, k, true, api.OK)
		del(t, a, ids[k]+1, api.OK)
		put(t, a, ids[k], k, true, api.OK)
		for i := range slots {
			del(t, a, ids[slots-1-i], api.OK)
		}
		for i, id := range ids {
			put(t, a, id, i, true, api.OK)
		}
	}
}

// P3.10
func TestNamesDoNotMatter(t *testing.T) {
	for seed := range uint64(30) {
		r := rand.New(rand.NewPCG(seed, 10))
		slots := 1 + r.IntN(60)
		sets := idSets(r, slots+3)
		var tables []*intern.Table
		for range sets {
			tables = append(tables, made(t, slots))
		}
		for range 200 {
			k := r.IntN(slots + 3)
			if r.IntN(5) < 2 {
				e := tables[0].Del(sets[0][k])
				for s, a := range tables[1:] {
					del(t, a, sets[s+1][k], e)
				}
				continue
			}
			i, added, e := tables[0].Put(sets[0][k])
			for s, a := range tables[1:] {
				put(t, a, sets[s+1][k], i, added, e)
			}
		}
	}
}
