package view_test

import (
	"math/rand/v2"
	"slices"
	"testing"

	"seepage/api"
	"seepage/view"
	"seepage/window"
)

// reached returns the ids that are connected with one by edges for which a function
// is true, in increasing order.
func reached(l []api.Live, from uint64, use func(i int) bool) []uint64 {
	seen := map[uint64]bool{from: true}
	for range l {
		for i, edge := range l {
			if use(i) && (seen[edge.Rec.U] || seen[edge.Rec.V]) {
				seen[edge.Rec.U], seen[edge.Rec.V] = true, true
			}
		}
	}
	var ids []uint64
	for id := range seen {
		ids = append(ids, id)
	}
	slices.Sort(ids)
	return ids
}

// groups returns the components of the graph with the edges for which a function is true.
func groups(l []api.Live, ids []uint64, use func(i int) bool) []view.Group {
	var groups []view.Group
	for _, id := range ids {
		if with := reached(l, id, use); with[0] == id {
			groups = append(groups, view.Group{Least: id, Size: len(with)})
		}
	}
	return groups
}

// row returns the row of some components.
func row(groups []view.Group) api.Row {
	var row api.Row
	for _, g := range groups {
		row.Largest = max(row.Largest, g.Size)
		row.Squares += int64(g.Size * g.Size)
	}
	row.Count = len(groups)
	return row
}

// order returns the indexes of the edges by weight, and then by index.
func order(l []api.Live) []int {
	var order []int
	for i := range l {
		order = append(order, i)
	}
	slices.SortStableFunc(order, func(a, b int) int { return int(l[a].Rec.W - l[b].Rec.W) })
	return order
}

// compareClusters compares what depends on thresholds, and Merges.
func compareClusters(t *testing.T, v *view.View, l []api.Live, ids []uint64) {
	t.Helper()
	for theta := int64(-6); theta <= 6; theta++ {
		under := func(i int) bool { return l[i].Rec.W <= theta }
		want := groups(l, ids, under)
		clusters(t, v, theta, want...)
		counts := make([]int64, 3)
		for _, g := range want {
			counts[min(g.Size/2, 2)]++
		}
		histogram(t, v, theta, []int64{2, 4}, api.OK, counts...)
		for _, id := range ids {
			with := reached(l, id, under)
			one(t, v, id, theta, view.Group{Least: with[0], Size: len(with)}, api.OK)
		}
	}
	var pairs [][2]uint64
	var heights []int64
	used := map[int]bool{}
	for _, i := range order(l) {
		u := reached(l, l[i].Rec.U, func(k int) bool { return used[k] })[0]
		v := reached(l, l[i].Rec.V, func(k int) bool { return used[k] })[0]
		if u != v {
			pairs = append(pairs, [2]uint64{min(u, v), max(u, v)})
			heights = append(heights, l[i].Rec.W)
		}
		used[i] = true
	}
	merges(t, v, pairs, heights...)
}

// compareMinimax compares the minimax thresholds.
func compareMinimax(t *testing.T, v *view.View, l []api.Live, ids []uint64) {
	t.Helper()
	for _, a := range ids {
		for _, b := range ids {
			want, ok := int64(0), false
			for theta := int64(6); theta >= -6; theta-- {
				if slices.Contains(reached(l, a, func(i int) bool { return l[i].Rec.W <= theta }), b) {
					want, ok = theta, true
				}
			}
			if a == b {
				want = least
			}
			minimax(t, v, a, b, want, ok, api.OK)
		}
	}
}

// compareRows compares the levels, and the rows of a random order.
func compareRows(t *testing.T, r *rand.Rand, v *view.View, l []api.Live, ids []uint64) {
	t.Helper()
	var want []api.Level
	for theta := int64(-6); theta <= 6; theta++ {
		if slices.ContainsFunc(l, func(edge api.Live) bool { return edge.Rec.W == theta }) {
			under := func(i int) bool { return l[i].Rec.W <= theta }
			want = append(want, api.Level{Theta: theta, Row: row(groups(l, ids, under))})
		}
	}
	levels(t, v, want...)
	draws := make([]uint64, max(len(l)-1, 0))
	var perm []int
	for i := range l {
		perm = append(perm, i)
	}
	for i := range draws {
		draws[i] = r.Uint64()
		k := i + int(draws[i]%uint64(len(l)-i))
		perm[i], perm[k] = perm[k], perm[i]
	}
	var rows []api.Row
	for k := range len(l) + 1 {
		rows = append(rows, row(groups(l, ids, func(i int) bool { return slices.Contains(perm[:k], i) })))
	}
	random(t, v, draws, api.OK, rows...)
}

// compareGraph compares the graph, its bridges, and its core numbers.
func compareGraph(t *testing.T, v *view.View, l []api.Live, ids []uint64) {
	t.Helper()
	var edges []api.Edge
	var seqs []uint64
	for i, edge := range l {
		edges = append(edges, api.Edge{U: slices.Index(ids, edge.Rec.U), V: slices.Index(ids, edge.Rec.V), W: edge.Rec.W})
		if !slices.Contains(reached(l, edge.Rec.U, func(k int) bool { return k != i }), edge.Rec.V) {
			seqs = append(seqs, edge.Seq)
		}
	}
	graph(t, v, ids, edges...)
	bridges(t, v, seqs...)
	numbers := make([]int, len(ids))
	gone := map[int]bool{}
	for k := 0; len(gone) < len(ids); k++ {
		// What has fewer than k+1 edges to what is left has the core number k.
		for again := true; again; {
			again = false
			for at := range ids {
				degree := 0
				for _, edge := range edges {
					if edge.U == at && !gone[edge.V] || edge.V == at && !gone[edge.U] {
						degree++
					}
				}
				if !gone[at] && degree <= k {
					gone[at], numbers[at], again = true, k, true
				}
			}
		}
	}
	cores(t, v, ids, numbers...)
}

// P38.1 to P38.9
func TestByDefinition(t *testing.T) {
	for seed := range uint64(40) {
		r := rand.New(rand.NewPCG(seed, 38))
		w, v := made(t, config(1+r.Int64N(12), 1+r.IntN(9), 2+r.IntN(8), 12))
		now := int64(0)
		for range 12 {
			now += r.Int64N(3)
			if r.IntN(5) == 0 {
				tick(t, w, now)
			} else {
				w.Add(api.Rec{U: r.Uint64N(9), V: r.Uint64N(9), W: r.Int64N(11) - 5, T: now})
			}
			now = w.Now()
			version, before := w.Version(), v.Builds()
			l, ids := w.Live(), w.IDs()
			compareGraph(t, v, l, ids)
			compareRows(t, r, v, l, ids)
			compareClusters(t, v, l, ids)
			compareMinimax(t, v, l, ids)
			if w.Version() != version || w.Now() != now || !slices.Equal(w.Live(), l) || v.Builds() > before+1 {
				t.Fatalf("a query changed the window, or built more than once")
			}
		}
	}
}

// P38.9: the clusters at a threshold, and the last row of Levels up to it.
func TestLevels(t *testing.T) {
	for seed := range uint64(60) {
		r := rand.New(rand.NewPCG(seed, 389))
		w, v := made(t, config(50, 30, 20, 0))
		for range r.IntN(30) {
			w.Add(api.Rec{U: r.Uint64N(15), V: r.Uint64N(15), W: r.Int64N(11) - 5, T: w.Now() + r.Int64N(4)})
		}
		for theta := int64(-6); theta <= 6; theta++ {
			all := v.Clusters(theta)
			total := 0
			for _, g := range all {
				total += g.Size
			}
			if _, verts, _ := w.Count(); total != verts {
				t.Errorf("%d vertices in clusters, %d in the window", total, verts)
			}
			want, found := api.Row{}, false
			for _, level := range v.Levels() {
				if level.Theta <= theta {
					want, found = level.Row, true
				}
			}
			if found && row(all) != want {
				t.Errorf("Clusters(%d) = %v; the level is %v", theta, all, want)
			}
		}
	}
}

// P38.1: two views of one window, which is kept itself.
func TestTwoViews(t *testing.T) {
	w, a := made(t, config(10, 5, 5, 5), example()...)
	b, e := view.New(w)
	if e != api.OK {
		t.Fatalf("New: error %d", e)
	}
	merges(t, a, [][2]uint64{{1, 2}, {1, 3}}, 5, 7)
	builds(t, b, 0)
	add(t, w, 2, 3, 1, 6)
	merges(t, b, [][2]uint64{{2, 3}, {1, 2}}, 1, 5)
	merges(t, a, [][2]uint64{{2, 3}, {1, 2}}, 1, 5)
	builds(t, a, 2)
	builds(t, b, 1)
	var none *window.Window
	if _, e := view.New(none.Copy()); e != api.ErrNil {
		t.Errorf("New: error %d", e)
	}
}
