package judge

import (
	"math"
	"slices"

	"seepage/api"
)

// choose returns the elements of a list for which a function is true.
func choose[E any](l []E, wanted func(x E) bool) []E {
	chosen := make([]E, 0, len(l))
	for _, x := range l {
		if wanted(x) {
			chosen = append(chosen, x)
		}
	}
	return chosen
}

// idsOf returns the ids of some edges in increasing order, each once.
func idsOf(l []api.Rec) []uint64 {
	var ends []uint64
	for _, r := range l {
		ends = append(ends, r.U, r.V)
	}
	slices.Sort(ends)
	return slices.Compact(ends)
}

// liveAt returns the edges that are still live at a time.
func (m *Model) liveAt(t int64) []api.Rec {
	return choose(m.live, func(r api.Rec) bool { return r.T+m.config.Window > t })
}

// added returns how many edges have been added.
func (m *Model) added() uint64 {
	return m.expired + uint64(len(m.live))
}

// version returns the version of the window.
func (m *Model) version() uint64 {
	return m.added() + m.expired
}

// check returns the error of a time to which the clock is to go.
func (m *Model) check(to int64) api.Errno {
	switch {
	case to < m.now:
		return api.ErrTime
	case to > math.MaxInt64-m.config.Window:
		return api.ErrOver
	default:
		return api.OK
	}
}

// advance sets the time, at which these edges are still live.
func (m *Model) advance(to int64, live []api.Rec) {
	m.now = to
	m.expired += uint64(len(m.live) - len(live))
	m.live = live
}

// add adds an edge.
func (m *Model) add(r api.Rec) api.Reply {
	if r.U == r.V {
		return api.Reply{Err: api.ErrLoop}
	}
	if e := m.check(r.T); e != api.OK {
		return api.Reply{Err: e}
	}
	live := m.liveAt(r.T)
	if len(live) >= m.config.Edges {
		return api.Reply{Err: api.ErrEdges}
	}
	if !m.hasRoom(live, r) {
		return api.Reply{Err: api.ErrVerts}
	}
	m.advance(r.T, live)
	m.live = append(live, r)
	return api.Reply{Nums: []int64{int64(m.added())}}
}

// hasRoom reports whether there are not too many vertices with one more edge.
func (m *Model) hasRoom(live []api.Rec, r api.Rec) bool {
	has := func(id uint64) bool {
		return slices.ContainsFunc(live, func(old api.Rec) bool { return old.U == id || old.V == id })
	}
	fresh := choose([]uint64{r.U, r.V}, func(id uint64) bool { return !has(id) })
	// Without new ones, the ids need not be counted.
	return len(fresh) == 0 || len(idsOf(live))+len(fresh) <= m.config.Verts
}

// tick sets the time.
func (m *Model) tick(to int64) api.Reply {
	if e := m.check(to); e != api.OK {
		return api.Reply{Err: e}
	}
	before := m.expired
	m.advance(to, m.liveAt(to))
	return api.Reply{Nums: []int64{int64(m.expired - before)}}
}

// count returns the numbers of edges, vertices and components.
func (m *Model) count() api.Reply {
	p := pictureOf(m.live)
	return api.Reply{Nums: []int64{int64(len(m.live)), int64(len(p.ids)), int64(p.graph.Row().Count)}}
}

// stats returns the time, the version, and the counters.
func (m *Model) stats() api.Reply {
	return api.Reply{Nums: []int64{m.now, int64(m.version()), int64(m.added()), int64(m.expired), int64(m.builds)}}
}
