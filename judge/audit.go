package judge

import (
	"cmp"
	"slices"

	"seepage/api"
	"seepage/dsu"
	"seepage/engine"
)

// Audit returns what is wrong with an engine.
func Audit(e *engine.Engine) []api.Flaw {
	w := e.Window()
	if w == nil {
		return nil
	}
	live := w.Live()
	flaws := Look(w.Config(), w.Now(), live)
	ids, ends := endsOf(live)
	sets, times := joined(len(ids), live, ends)
	edges, verts, comps := w.Count()
	added, expired := w.Added()
	counted := edges == len(live) && verts == len(ids) && comps == sets.Count() && slices.Equal(w.IDs(), ids)
	if !counted || added-expired != uint64(len(live)) || w.Version() != added+expired {
		flaws = append(flaws, api.Flaw{Kind: api.FlawCount, At: -1})
	}
	for i, edge := range live {
		if t, ok, _ := w.Until(edge.Rec.U, edge.Rec.V); !ok || t != times[i] {
			flaws = append(flaws, api.Flaw{Kind: api.FlawForest, At: i})
		}
	}
	for v, id := range ids {
		size, _ := w.Size(id)
		with, _ := w.Connected(ids[0], id)
		if size != sets.Size(v) || with != sets.Same(0, v) {
			flaws = append(flaws, api.Flaw{Kind: api.FlawLabel, At: v})
		}
	}
	return flaws
}

// endsOf returns the ids of some edges, and the numbers of the ends of each one.
func endsOf(live []api.Live) (ids []uint64, ends [][2]int) {
	var l []api.Rec
	for _, edge := range live {
		l = append(l, edge.Rec)
	}
	ids = idsOf(l)
	for _, r := range l {
		u, _ := slices.BinarySearch(ids, r.U)
		v, _ := slices.BinarySearch(ids, r.V)
		ends = append(ends, [2]int{u, v})
	}
	return ids, ends
}

// joined returns the components of so many vertices, and for each edge the greatest
// time for which its ends are connected by edges that expire then or later.
func joined(verts int, live []api.Live, ends [][2]int) (*dsu.Sets, []int64) {
	sets, _ := dsu.New(verts)
	times, found := make([]int64, len(live)), make([]bool, len(live))
	order := make([]int, len(live))
	for i := range order {
		order[i] = i
	}
	slices.SortFunc(order, func(a, b int) int { return cmp.Compare(live[b].Exp, live[a].Exp) })
	for _, i := range order {
		if united, _ := sets.Union(ends[i][0], ends[i][1]); !united {
			continue
		}
		for k, end := range ends {
			if !found[k] && sets.Same(end[0], end[1]) {
				times[k], found[k] = live[i].Exp, true
			}
		}
	}
	return sets, times
}
