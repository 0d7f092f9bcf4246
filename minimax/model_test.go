package minimax_test

import (
	"math/rand/v2"
	"slices"
	"testing"

	"seepage/api"
	"seepage/graph"
	"seepage/kruskal"
	"seepage/minimax"
)

func graphs(t *testing.T, f func(r *rand.Rand, n int, l []api.Edge, x *minimax.Finder)) {
	for seed := range uint64(80) {
		r := rand.New(rand.NewPCG(seed, 20))
		n := 2 + r.IntN(24)
		spread := []int64{1, 3, 9, 200}[seed%4]
		var l []api.Edge
		for range r.IntN(2*n + 1) {
			u := r.IntN(n)
			l = append(l, edge(u, (u+1+r.IntN(n-1))%n, r.Int64N(spread)-spread/2))
		}
		f(r, n, l, made(t, n, l...))
	}
}

// P20.2 to P20.4, P20.6, P20.7: by the labels at each threshold.
func TestByThresholds(t *testing.T) {
	graphs(t, func(r *rand.Rand, n int, l []api.Edge, f *minimax.Finder) {
		thetas := []int64{-200}
		for _, edge := range l {
			thetas = append(thetas, edge.W)
		}
		slices.Sort(thetas)
		thetas = slices.Compact(thetas)
		g, _ := graph.New(n, l)
		smallest := map[[2]int]int64{}
		for _, theta := range slices.Backward(thetas) {
			labels := g.Under(theta).Labels()
			pairs := int64(0)
			for u := range n {
				for v := range n {
					joined(t, f, u, v, theta, labels[u] == labels[v])
					if labels[u] == labels[v] {
						smallest[[2]int{u, v}] = theta
						if u < v {
							pairs++
						}
					}
				}
			}
			count(t, f, theta, pairs)
		}
		for u := range n {
			far, distant, some := 0, int64(0), false
			for v := range n {
				theta, ok := smallest[[2]int{u, v}]
				if u == v {
					distance(t, f, u, v, least, true)
					continue
				}
				distance(t, f, u, v, theta, ok)
				if ok && (!some || theta > distant) {
					far, distant, some = v, theta, true
				}
			}
			farthest(t, f, u, far, distant, some)
		}
	})
}

// P20.4: by adding the edges one by one.
func TestEdgeByDefinition(t *testing.T) {
	graphs(t, func(r *rand.Rand, n int, l []api.Edge, f *minimax.Finder) {
		first := map[[2]int]int{}
		var added []api.Edge
		for _, i := range kruskal.Order(l) {
			added = append(added, l[i])
			g, _ := graph.New(n, added)
			labels := g.Labels()
			for u := range n {
				for v := range n {
					if _, was := first[[2]int{u, v}]; !was && u != v && labels[u] == labels[v] {
						first[[2]int{u, v}] = i
					}
				}
			}
		}
		for u := range n {
			for v := range n {
				i, ok := first[[2]int{u, v}]
				join(t, f, u, v, i, ok)
			}
		}
	})
}

// P20.5, P20.8
func TestProperties(t *testing.T) {
	graphs(t, func(r *rand.Rand, n int, l []api.Edge, f *minimax.Finder) {
		forest, _ := kruskal.Forest(n, l)
		for range 100 {
			u, v, w := r.IntN(n), r.IntN(n), r.IntN(n)
			theta, ok := f.Minimax(u, v)
			distance(t, f, v, u, theta, ok)
			way := f.Path(u, v)
			if u == v || !ok {
				path(t, f, u, v)
				continue
			}
			checkPath(t, l, forest, way, u, v, theta)
			back := f.Path(v, u)
			slices.Reverse(back)
			path(t, f, u, v, back...)
			if i, _ := f.Edge(u, v); l[i].W != theta {
				t.Fatalf("Edge(%d, %d) = %d, with the weight %d; Minimax %d", u, v, i, l[i].W, theta)
			}
			vw, okVW := f.Minimax(v, w)
			uw, _ := f.Minimax(u, w)
			if okVW && uw > max(theta, vw) {
				t.Fatalf("Minimax of %d, %d, %d: %d, %d, %d", u, v, w, theta, vw, uw)
			}
		}
	})
}

// checkPath checks that edges of the forest lead from u to v without going back,
// and that theta is the greatest weight of them.
func checkPath(t *testing.T, l []api.Edge, forest, way []int, u, v int, theta int64) {
	t.Helper()
	at, greatest, seen := u, int64(least), []int{u}
	for _, i := range way {
		if !slices.Contains(forest, i) || l[i].U != at && l[i].V != at {
			t.Fatalf("Path(%d, %d) = %v; the forest is %v", u, v, way, forest)
		}
		at = l[i].U + l[i].V - at
		if slices.Contains(seen, at) {
			t.Fatalf("Path(%d, %d) = %v, twice at %d", u, v, way, at)
		}
		seen = append(seen, at)
		greatest = max(greatest, l[i].W)
	}
	if at != v || greatest != theta {
		t.Fatalf("Path(%d, %d) = %v leads to %d; the greatest weight is %d, Minimax %d", u, v, way, at, greatest, theta)
	}
}
