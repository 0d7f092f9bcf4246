package lattice_test

import (
	"slices"
	"testing"

	"seepage/api"
	"seepage/graph"
	"seepage/lattice"
)

// sizes are numbers of columns and of rows: small ones, and the greatest.
var sizes = [][2]int{
	{1, 1}, {1, 2}, {2, 1}, {2, 2}, {1, 3}, {3, 1}, {2, 3}, {3, 2}, {3, 3}, {4, 3}, {3, 4}, {5, 2}, {2, 5}, {1, 7}, {7, 1}, {6, 5},
	{64, 64}, {4096, 1}, {1, 4096}, {2, 2048}, {1365, 3}, {3, 1365},
}

// kind is Square or Triangular.
type kind func(w, h int, x, y bool) (int, []api.Edge, api.Errno)

// kinds calls f with each kind of lattice of each size, with the edges that the
// definition says, if it is closed in these directions.
func kinds(t *testing.T, f func(w, h int, x, y bool, directions int, l []api.Edge)) {
	for _, size := range sizes {
		for k := range 4 {
			w, h, x, y := size[0], size[1], k&1 == 1, k&2 == 2
			for i, lattice := range []kind{lattice.Square, lattice.Triangular} {
				n, l, e := lattice(w, h, x, y)
				if n != w*h || e != api.OK {
					t.Fatalf("%d by %d: %d vertices, error %d", w, h, n, e)
				}
				f(w, h, x, y, i+2, l)
			}
		}
	}
}

// P29.1, P29.2: each vertex by its column and row.
func TestByDefinition(t *testing.T) {
	kinds(t, func(w, h int, x, y bool, directions int, l []api.Edge) {
		var want []api.Edge
		for row := range h {
			for column := range w {
				nextX, hasX := column+1, true
				if nextX == w {
					nextX, hasX = 0, x && w >= 3
				}
				nextY, hasY := row+1, true
				if nextY == h {
					nextY, hasY = 0, y && h >= 3
				}
				if hasX {
					want = append(want, api.Edge{U: row*w + column, V: row*w + nextX})
				}
				if hasY {
					want = append(want, api.Edge{U: row*w + column, V: nextY*w + column})
				}
				if hasX && hasY && directions == 3 {
					want = append(want, api.Edge{U: row*w + column, V: nextY*w + nextX})
				}
			}
		}
		if !slices.Equal(l, want) {
			t.Fatalf("%d by %d, %t, %t: %d edges, expected %d", w, h, x, y, len(l), len(want))
		}
	})
}

// P29.7, P29.8
func TestDegreesAndConnection(t *testing.T) {
	kinds(t, func(w, h int, x, y bool, directions int, l []api.Edge) {
		g, e := graph.New(w*h, l)
		if e != api.OK || g.Row().Count != 1 {
			t.Fatalf("%d by %d, %t, %t: error %d, %d components", w, h, x, y, e, g.Row().Count)
		}
		seen := map[[2]int]bool{}
		for _, edge := range l {
			pair := [2]int{min(edge.U, edge.V), max(edge.U, edge.V)}
			if seen[pair] || pair[0] == pair[1] || edge.W != 0 {
				t.Fatalf("%d by %d, %t, %t: %v", w, h, x, y, edge)
			}
			seen[pair] = true
		}
		if x && y && w >= 3 && h >= 3 {
			for v := range w * h {
				if g.Degree(v) != 2*directions {
					t.Fatalf("%d by %d: %d has %d edges", w, h, v, g.Degree(v))
				}
			}
		}
		if want := w*(h-1) + h*(w-1) + (directions-2)*(w-1)*(h-1); !x && !y && len(l) != want {
			t.Fatalf("%d by %d: %d edges, expected %d", w, h, len(l), want)
		}
	})
}

// P29.9
func TestClosing(t *testing.T) {
	kinds(t, func(w, h int, x, y bool, directions int, l []api.Edge) {
		open := []kind{lattice.Square, lattice.Triangular}[directions-2]
		_, want, _ := open(w, h, false, false)
		kept := slices.DeleteFunc(slices.Clone(l), func(edge api.Edge) bool {
			return w >= 3 && edge.U%w == w-1 && edge.V%w == 0 || h >= 3 && edge.U/w == h-1 && edge.V/w == 0
		})
		if !slices.Equal(kept, want) {
			t.Fatalf("%d by %d, %t, %t: %d edges, expected %d", w, h, x, y, len(kept), len(want))
		}
	})
}

// P29.4, P29.6
func TestPlaces(t *testing.T) {
	for _, size := range sizes {
		w, h := size[0], size[1]
		v := 0
		for y := range h {
			for x := range w {
				at(t, w, h, x, y, v, api.OK)
				place(t, w, h, v, x, y, api.OK)
				v++
			}
		}
		place(t, w, h, v, 0, 0, api.ErrRange)
	}
}

// P29.3, P29.7, P29.8
func TestTreesAndCompleteGraphs(t *testing.T) {
	for children := 1; children < 9; children++ {
		for depth := range 5 {
			n, l, e := lattice.Tree(children, depth)
			g, e2 := graph.New(n, l)
			if n > api.MaxVerts || e != api.OK || e2 != api.OK {
				if children == 8 && depth == 4 && e == api.ErrArg {
					continue
				}
				t.Fatalf("Tree(%d, %d): error %d", children, depth, e)
			}
			if len(l) != n-1 || g.Row().Count != 1 {
				t.Fatalf("Tree(%d, %d): %d vertices, %d edges", children, depth, n, len(l))
			}
			for v, d := range g.Dist(0) {
				want := children
				if d == depth {
					want = 0
				}
				if v > 0 {
					want++
					if l[v-1].V != v || l[v-1].U >= v || l[v-1].W != 0 || v > 1 && l[v-1].U < l[v-2].U {
						t.Fatalf("Tree(%d, %d): %v", children, depth, l)
					}
				}
				if g.Degree(v) != want || d > depth {
					t.Fatalf("Tree(%d, %d): %d has %d edges", children, depth, v, g.Degree(v))
				}
			}
		}
	}
	for n := 1; n < 30; n++ {
		l, _ := lattice.Complete(n)
		g, e := graph.New(n, l)
		if e != api.OK || len(l) != n*(n-1)/2 || g.Row().Count != 1 {
			t.Fatalf("Complete(%d): %d edges, error %d", n, len(l), e)
		}
		for i, edge := range l {
			if edge.U >= edge.V || edge.W != 0 || i > 0 && (l[i-1].U > edge.U || l[i-1].U == edge.U && l[i-1].V >= edge.V) {
				t.Fatalf("Complete(%d): %v", n, l)
			}
		}
	}
}
