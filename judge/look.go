package judge

import "seepage/api"

// test says of which edges of a list, by their indexes, there is a kind of flaws.
type test struct {
	kind int
	has  func(i int) bool
}

// list is a list of live edges that is looked at edge by edge.
type list struct {
	c     api.Config
	now   int64
	edges []api.Live
	// slots and ids are those of the edges that were looked at.
	slots map[int]bool
	ids   map[uint64]bool
}

// Look returns what is wrong with a list of live edges at a time.
func Look(c api.Config, now int64, l []api.Live) []api.Flaw {
	looked := &list{c: c, now: now, edges: l, slots: map[int]bool{}, ids: map[uint64]bool{}}
	tests := []test{
		{kind: api.FlawCount, has: looked.miscounted},
		{kind: api.FlawExpired, has: looked.expired},
		{kind: api.FlawClock, has: looked.mistimed},
	}
	var flaws []api.Flaw
	for i := range l {
		for _, t := range tests {
			if t.has(i) {
				flaws = append(flaws, api.Flaw{Kind: t.kind, At: i})
			}
		}
	}
	return flaws
}

// miscounted reports whether the ends, the slot or the sequence number of an edge are
// wrong, or there are too many edges or vertices with it.
func (l *list) miscounted(i int) bool {
	edge := l.edges[i]
	wrong := edge.Rec.U == edge.Rec.V || edge.Slot < 0 || edge.Slot >= l.c.Edges || l.slots[edge.Slot] || i >= l.c.Edges
	if i > 0 && edge.Seq <= l.edges[i-1].Seq {
		wrong = true
	}
	verts := len(l.ids)
	l.slots[edge.Slot] = true
	l.ids[edge.Rec.U], l.ids[edge.Rec.V] = true, true
	return wrong || verts <= l.c.Verts && len(l.ids) > l.c.Verts
}

// expired reports whether an edge has expired.
func (l *list) expired(i int) bool {
	return l.edges[i].Exp <= l.now
}

// mistimed reports whether the time of an edge, or that at which it expires, is wrong.
func (l *list) mistimed(i int) bool {
	edge := l.edges[i]
	if edge.Rec.T > l.now || i > 0 && edge.Rec.T < l.edges[i-1].Rec.T {
		return true
	}
	exp := edge.Rec.T + l.c.Window
	overflows := (exp >= edge.Rec.T) != (l.c.Window >= 0)
	return overflows || edge.Exp != exp
}
