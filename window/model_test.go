package window_test

import (
	"math/rand/v2"
	"slices"
	"testing"

	"seepage/api"
	"seepage/window"
)

// model is a window as the chapter describes it: the list of all edges that were
// added, of which those are live that are not expired at the time.
type model struct {
	c     api.Config
	now   int64
	added []api.Rec
}

// live returns the edges that are live at a time.
func (m *model) live(now int64) []api.Rec {
	var l []api.Rec
	for _, r := range m.added {
		if r.T+m.c.Window > now {
			l = append(l, r)
		}
	}
	return l
}

// ids returns the ids of some edges, each once.
func ids(l []api.Rec) []uint64 {
	var ids []uint64
	for _, r := range l {
		ids = append(ids, r.U, r.V)
	}
	slices.Sort(ids)
	return slices.Compact(ids)
}

// add returns the error of Add, or adds an edge.
func (m *model) add(r api.Rec) api.Errno {
	switch live := m.live(r.T); {
	case r.U == r.V:
		return api.ErrLoop
	case r.T < m.now:
		return api.ErrTime
	case len(live) >= m.c.Edges:
		return api.ErrEdges
	case len(ids(append(live, r))) > m.c.Verts:
		return api.ErrVerts
	}
	m.now, m.added = r.T, append(m.added, r)
	return api.OK
}

// reached returns the vertices that are connected with u by edges of a list that
// expire at a time or later.
func (m *model) reached(l []api.Rec, u uint64, from int64) map[uint64]bool {
	reached := map[uint64]bool{u: true}
	for range l {
		for _, r := range l {
			if r.T+m.c.Window >= from && (reached[r.U] || reached[r.V]) {
				reached[r.U], reached[r.V] = true, true
			}
		}
	}
	return reached
}

// compare compares all that a window shows with the model.
func (m *model) compare(t *testing.T, w *window.Window) {
	t.Helper()
	l := m.live(m.now)
	all := ids(l)
	shows(t, w, m.now, uint64(len(m.added)), uint64(len(m.added)-len(l)), l...)
	comps, sizes := 0, 0
	for _, u := range all {
		joined := m.reached(l, u, m.now)
		size(t, w, u, len(joined), api.OK)
		first := true
		for _, v := range all {
			first = first && (v >= u || !joined[v])
			connected(t, w, u, v, joined[v], api.OK)
			if u == v || !joined[v] {
				until(t, w, u, v, 0, false, api.OK)
				continue
			}
			end := m.now
			for m.reached(l, u, end+1)[v] {
				end++
			}
			until(t, w, u, v, end, true, api.OK)
		}
		if first {
			comps++
			sizes += len(joined)
		}
	}
	counts(t, w, len(l), len(all), comps)
	if sizes != len(all) {
		t.Errorf("the sizes are %d together, there are %d vertices", sizes, len(all))
	}
}

// step does the same at random with a window and its model.
func (m *model) step(t *testing.T, r *rand.Rand, w *window.Window) {
	t.Helper()
	at := m.now + r.Int64N(5) - 1
	if r.IntN(6) == 0 {
		if at < m.now {
			tick(t, w, at, api.ErrTime)
			return
		}
		tick(t, w, at, api.OK)
		m.now = at
		return
	}
	record := rec(r.Uint64N(8), r.Uint64N(8), r.Int64N(9), at)
	want := m.add(record)
	add(t, w, record, want)
}

func random(r *rand.Rand) *model {
	return &model{c: config(1+r.Int64N(12), 1+r.IntN(9), 2+r.IntN(7), r.IntN(5))}
}

// P37.2 to P37.6, P37.9
func TestByModel(t *testing.T) {
	for seed := range uint64(60) {
		r := rand.New(rand.NewPCG(seed, 37))
		m := random(r)
		w := made(t, m.c)
		for range 50 {
			m.step(t, r, w)
			m.compare(t, w)
			if r.IntN(10) == 0 {
				w = w.Copy()
			}
		}
	}
}

// P37.7, P37.11
func TestRestored(t *testing.T) {
	for seed := range uint64(60) {
		r := rand.New(rand.NewPCG(seed, 3711))
		m := random(r)
		w := made(t, m.c)
		for range 60 {
			m.step(t, r, w)
			if r.IntN(12) == 0 {
				_, expired := w.Added()
				w = restored(t, w.Config(), w.Now(), expired, m.live(m.now)...)
				m.compare(t, w)
			}
		}
		m.compare(t, w)
	}
}

// P37.8
func TestStaysConnected(t *testing.T) {
	for seed := range uint64(100) {
		r := rand.New(rand.NewPCG(seed, 378))
		m := random(r)
		w := made(t, m.c)
		for range 30 {
			m.step(t, r, w)
		}
		l := m.live(m.now)
		for _, u := range ids(l) {
			for _, v := range ids(l) {
				end, ok, _ := w.Until(u, v)
				if !ok {
					continue
				}
				before, after := w.Copy(), w.Copy()
				tick(t, before, end-1, api.OK)
				connected(t, before, u, v, true, api.OK)
				tick(t, after, end+r.Int64N(2), api.OK)
				if joined, _ := after.Connected(u, v); joined {
					t.Errorf("%d and %d are connected at %d, until %d", u, v, after.Now(), end)
				}
			}
		}
	}
}

// P37.10
func TestRoom(t *testing.T) {
	refusals := 0
	for seed := range uint64(200) {
		r := rand.New(rand.NewPCG(seed, 3710))
		m := random(r)
		w := made(t, m.c)
		for range 40 {
			m.step(t, r, w)
		}
		l := w.Live()
		if len(l) == 0 {
			continue
		}
		u, v := l[len(l)-1].Rec.U, l[len(l)-1].Rec.V
		want := api.OK
		if len(l) == m.c.Edges {
			want = api.ErrEdges
			refusals++
		}
		add(t, w.Copy(), rec(u, v, 0, w.Now()), want)
		add(t, w, rec(u, v, 0, l[0].Exp), api.OK)
	}
	if refusals < 20 {
		t.Errorf("%d refusals", refusals)
	}
}
