package lattice_test

import (
	"math"
	"slices"
	"testing"

	"seepage/api"
	"seepage/lattice"
)

// pairs returns edges with the weight 0, given by their ends.
func pairs(ends ...int) []api.Edge {
	var l []api.Edge
	for i := 0; i < len(ends); i += 2 {
		l = append(l, api.Edge{U: ends[i], V: ends[i+1]})
	}
	return l
}

// same compares what a function returns with n vertices and edges.
func same(t *testing.T, name string, n int, l []api.Edge, e api.Errno, want int, edges []api.Edge) {
	t.Helper()
	if n != want || !slices.Equal(l, edges) || e != api.OK {
		t.Fatalf("%s: %d, %v, error %d; expected %d, %v", name, n, l, e, want, edges)
	}
}

func refused(t *testing.T, name string, n int, l []api.Edge, e, want api.Errno) {
	t.Helper()
	if n != 0 || l != nil || e != want {
		t.Fatalf("%s: %d, %d edges, error %d; expected %d", name, n, len(l), e, want)
	}
}

func square(t *testing.T, w, h int, x, y bool, ends ...int) {
	t.Helper()
	n, l, e := lattice.Square(w, h, x, y)
	same(t, "Square", n, l, e, w*h, pairs(ends...))
}

func triangular(t *testing.T, w, h int, x, y bool, ends ...int) {
	t.Helper()
	n, l, e := lattice.Triangular(w, h, x, y)
	same(t, "Triangular", n, l, e, w*h, pairs(ends...))
}

func tree(t *testing.T, children, depth, want int, ends ...int) {
	t.Helper()
	n, l, e := lattice.Tree(children, depth)
	same(t, "Tree", n, l, e, want, pairs(ends...))
}

func complete(t *testing.T, n int, ends ...int) {
	t.Helper()
	l, e := lattice.Complete(n)
	same(t, "Complete", n, l, e, n, pairs(ends...))
}

func at(t *testing.T, w, h, x, y, want int, we api.Errno) {
	t.Helper()
	if got, e := lattice.At(w, h, x, y); got != want || e != we {
		t.Fatalf("At(%d, %d, %d, %d) = %d, error %d; expected %d, error %d", w, h, x, y, got, e, want, we)
	}
}

func place(t *testing.T, w, h, v, wantX, wantY int, we api.Errno) {
	t.Helper()
	if x, y, e := lattice.Place(w, h, v); x != wantX || y != wantY || e != we {
		t.Fatalf("Place(%d, %d, %d) = %d, %d, error %d; expected %d, %d, error %d", w, h, v, x, y, e, wantX, wantY, we)
	}
}

// P29.1 to P29.4: the chapter's examples.
func TestExamples(t *testing.T) {
	square(t, 3, 2, false, false, 0, 1, 0, 3, 1, 2, 1, 4, 2, 5, 3, 4, 4, 5)
	square(t, 3, 2, true, true, 0, 1, 0, 3, 1, 2, 1, 4, 2, 0, 2, 5, 3, 4, 4, 5, 5, 3)
	triangular(t, 2, 2, true, true, 0, 1, 0, 2, 0, 3, 1, 3, 2, 3)
	tree(t, 2, 2, 7, 0, 1, 0, 2, 1, 3, 1, 4, 2, 5, 2, 6)
	complete(t, 3, 0, 1, 0, 2, 1, 2)
	l, e := lattice.Complete(182)
	refused(t, "Complete(182)", 0, l, e, api.ErrLong)
	at(t, 3, 2, 2, 1, 5, api.OK)
	place(t, 3, 2, 5, 2, 1, api.OK)
}

// P29.1, P29.2: small grids, and in which directions closing has an effect.
func TestSmallGrids(t *testing.T) {
	for _, x := range []bool{false, true} {
		for _, y := range []bool{false, true} {
			square(t, 1, 1, x, y)
			square(t, 2, 1, x, y, 0, 1)
			square(t, 1, 2, x, y, 0, 1)
			square(t, 2, 2, x, y, 0, 1, 0, 2, 1, 3, 2, 3)
			triangular(t, 1, 1, x, y)
			triangular(t, 2, 1, x, y, 0, 1)
			triangular(t, 1, 2, x, y, 0, 1)
		}
		square(t, 3, 1, true, x, 0, 1, 1, 2, 2, 0)
		square(t, 3, 1, false, x, 0, 1, 1, 2)
		square(t, 1, 3, x, true, 0, 1, 1, 2, 2, 0)
		square(t, 1, 3, x, false, 0, 1, 1, 2)
		triangular(t, 1, 3, x, true, 0, 1, 1, 2, 2, 0)
		square(t, 3, 2, false, x, 0, 1, 0, 3, 1, 2, 1, 4, 2, 5, 3, 4, 4, 5)
		square(t, 2, 3, x, false, 0, 1, 0, 2, 1, 3, 2, 3, 2, 4, 3, 5, 4, 5)
		square(t, 2, 3, x, true, 0, 1, 0, 2, 1, 3, 2, 3, 2, 4, 3, 5, 4, 5, 4, 0, 5, 1)
		triangular(t, 2, 3, x, true, 0, 1, 0, 2, 0, 3, 1, 3, 2, 3, 2, 4, 2, 5, 3, 5, 4, 5, 4, 0, 4, 1, 5, 1)
		triangular(t, 3, 2, true, x, 0, 1, 0, 3, 0, 4, 1, 2, 1, 4, 1, 5, 2, 0, 2, 5, 2, 3, 3, 4, 4, 5, 5, 3)
	}
	triangular(t, 3, 3, false, false, 0, 1, 0, 3, 0, 4, 1, 2, 1, 4, 1, 5, 2, 5, 3, 4, 3, 6, 3, 7, 4, 5, 4, 7, 4, 8, 5, 8, 6, 7, 7, 8)
	triangular(t, 3, 3, true, true, 0, 1, 0, 3, 0, 4, 1, 2, 1, 4, 1, 5, 2, 0, 2, 5, 2, 3, 3, 4, 3, 6, 3, 7, 4, 5, 4, 7, 4, 8, 5, 3, 5, 8, 5, 6, 6, 7, 6, 0, 6, 1, 7, 8, 7, 1, 7, 2, 8, 6, 8, 2, 8, 0)
}

// P29.1, P29.2, P29.4: grids that there are not.
func TestNoGrids(t *testing.T) {
	for _, c := range [][2]int{
		{0, 1}, {1, 0}, {0, 0}, {-1, 1}, {1, -1}, {-1, -1}, {-64, -64}, {4097, 1}, {1, 4097}, {64, 65}, {65, 64}, {1 << 32, 1 << 32}, {1 << 62, 4}, {3, 1 << 62},
		{math.MaxInt, math.MaxInt}, {math.MinInt, math.MinInt}, {math.MaxInt, 1}, {1, math.MaxInt}, {math.MinInt, 1}, {-1, math.MinInt},
	} {
		n, l, e := lattice.Square(c[0], c[1], true, false)
		refused(t, "Square", n, l, e, api.ErrArg)
		n, l, e = lattice.Triangular(c[0], c[1], false, true)
		refused(t, "Triangular", n, l, e, api.ErrArg)
		for _, v := range []int{0, -1} {
			at(t, c[0], c[1], v, v, 0, api.ErrArg)
			place(t, c[0], c[1], v, 0, 0, api.ErrArg)
		}
	}
}

// P29.3
func TestTree(t *testing.T) {
	tree(t, 1, 0, 1)
	tree(t, math.MaxInt, 0, 1)
	tree(t, 1, 3, 4, 0, 1, 1, 2, 2, 3)
	tree(t, 3, 1, 4, 0, 1, 0, 2, 0, 3)
	for _, c := range [][3]int{{1, 4095, 4096}, {4095, 1, 4096}, {2, 11, 4095}, {63, 2, 4033}, {15, 3, 3616}, {7, 4, 2801}} {
		n, l, e := lattice.Tree(c[0], c[1])
		if n != c[2] || len(l) != n-1 || e != api.OK {
			t.Errorf("Tree(%d, %d): %d vertices, %d edges, error %d", c[0], c[1], n, len(l), e)
		}
	}
	for _, c := range [][2]int{
		{0, 0}, {0, 1}, {-1, 0}, {1, -1}, {0, -1}, {math.MinInt, 3}, {3, math.MinInt}, {1, 4096}, {4096, 1}, {2, 12}, {64, 2}, {16, 3}, {8, 4},
		{1, math.MaxInt}, {2, math.MaxInt}, {math.MaxInt, 1}, {math.MaxInt, 2}, {math.MaxInt, math.MaxInt}, {1 << 32, 2}, {1 << 62, 4},
	} {
		n, l, e := lattice.Tree(c[0], c[1])
		refused(t, "Tree", n, l, e, api.ErrArg)
	}
}

// P29.3
func TestComplete(t *testing.T) {
	complete(t, 0)
	complete(t, 1)
	complete(t, 2, 0, 1)
	complete(t, 4, 0, 1, 0, 2, 0, 3, 1, 2, 1, 3, 2, 3)
	if l, e := lattice.Complete(181); len(l) != 181*90 || l[181*90-1] != (api.Edge{U: 179, V: 180}) || e != api.OK {
		t.Errorf("Complete(181): %d edges, error %d", len(l), e)
	}
	for _, n := range []int{182, 183, api.MaxVerts} {
		l, e := lattice.Complete(n)
		refused(t, "Complete", 0, l, e, api.ErrLong)
	}
	for _, n := range []int{-1, api.MaxVerts + 1, math.MinInt, math.MaxInt} {
		l, e := lattice.Complete(n)
		refused(t, "Complete", 0, l, e, api.ErrArg)
	}
}

// P29.4: places that there are not.
func TestNoPlaces(t *testing.T) {
	for _, i := range []int{-1, math.MinInt, math.MaxInt} {
		at(t, 3, 2, i, 0, 0, api.ErrRange)
		at(t, 3, 2, 0, i, 0, api.ErrRange)
		at(t, 3, 2, i, i, 0, api.ErrRange)
		place(t, 3, 2, i, 0, 0, api.ErrRange)
	}
	at(t, 3, 2, 3, 0, 0, api.ErrRange)
	at(t, 3, 2, 0, 2, 0, api.ErrRange)
	at(t, 3, 2, 2, 0, 2, api.OK)
	at(t, 3, 2, 0, 1, 3, api.OK)
	place(t, 3, 2, 6, 0, 0, api.ErrRange)
	place(t, 3, 2, 2, 2, 0, api.OK)
	place(t, 3, 2, 3, 0, 1, api.OK)
	at(t, 4096, 1, 4095, 0, 4095, api.OK)
	at(t, 1, 4096, 0, 4095, 4095, api.OK)
	place(t, 1, 4096, 4095, 0, 4095, api.OK)
}

// P29.5: edges of any kind, and weights of any kind.
func TestWeights(t *testing.T) {
	l := []api.Edge{{U: 5, V: 5, W: 9}, {U: -1, V: math.MaxInt, W: 3}, {U: 0, V: 1}}
	w := []int64{math.MinInt64, math.MaxInt64, 0}
	got, e := lattice.Weights(l, w)
	if want := []api.Edge{{U: 5, V: 5, W: math.MinInt64}, {U: -1, V: math.MaxInt, W: math.MaxInt64}, {U: 0, V: 1}}; !slices.Equal(got, want) || e != api.OK {
		t.Errorf("Weights: %v, error %d", got, e)
	}
	for _, c := range []struct {
		l []api.Edge
		w []int64
	}{{l, w[:2]}, {l[:2], w}, {nil, w}, {l, nil}} {
		got, e := lattice.Weights(c.l, c.w)
		refused(t, "Weights", 0, got, e, api.ErrArg)
	}
	got, e = lattice.Weights(nil, []int64{})
	same(t, "Weights", 0, got, e, 0, nil)
	many := api.MaxEdges + 5
	if got, e := lattice.Weights(make([]api.Edge, many), make([]int64, many)); len(got) != many || e != api.OK {
		t.Errorf("Weights: %d edges, error %d", len(got), e)
	}
}

// R4
func TestMemory(t *testing.T) {
	l, w := pairs(0, 1, 1, 2, 7, 7), []int64{4, 5, 6}
	got, _ := lattice.Weights(l[:2], w[:2])
	clear(append(got, api.Edge{}))
	if !slices.Equal(l, pairs(0, 1, 1, 2, 7, 7)) || !slices.Equal(w, []int64{4, 5, 6}) {
		t.Errorf("%v, %v", l, w)
	}
	_, first, _ := lattice.Square(2, 1, false, false)
	clear(first)
	square(t, 2, 1, false, false, 0, 1)
}
