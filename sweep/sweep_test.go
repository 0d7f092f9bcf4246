package sweep_test

import (
	"math"
	"slices"
	"testing"

	"seepage/api"
	"seepage/sweep"
)

func edge(u, v int, w int64) api.Edge { return api.Edge{U: u, V: v, W: w} }

func row(largest, count int, squares int64) api.Row {
	return api.Row{Largest: largest, Count: count, Squares: squares}
}

func rows(t *testing.T, n int, l []api.Edge, order []int, want []api.Row, we api.Errno) {
	t.Helper()
	if got, e := sweep.Rows(n, l, order); !slices.Equal(got, want) || e != we {
		t.Fatalf("Rows(%d, %v, %v) = %v, error %d; expected %v, error %d", n, l, order, got, e, want, we)
	}
}

func levels(t *testing.T, n int, l []api.Edge, want []api.Level, we api.Errno) {
	t.Helper()
	if got, e := sweep.Levels(n, l); !slices.Equal(got, want) || e != we {
		t.Fatalf("Levels(%d, %v) = %v, error %d; expected %v, error %d", n, l, got, e, want, we)
	}
}

func random(t *testing.T, n int, l []api.Edge, draws []uint64, want []api.Row, we api.Errno) {
	t.Helper()
	if got, e := sweep.Random(n, l, draws); !slices.Equal(got, want) || e != we {
		t.Fatalf("Random(%d, %v, %v) = %v, error %d; expected %v, error %d", n, l, draws, got, e, want, we)
	}
}

// heavy is what Weighted returns for one row.
type heavy struct {
	largest int64
	count   int
	squares int64
}

func weighted(t *testing.T, weights []int64, l []api.Edge, order []int, want []heavy, we api.Errno) {
	t.Helper()
	largest, count, squares, e := sweep.Weighted(weights, l, order)
	if e != we || len(largest) != len(want) || len(count) != len(want) || len(squares) != len(want) {
		t.Fatalf("Weighted(%v, %v, %v) = %v, %v, %v, error %d; expected %v, error %d", weights, l, order, largest, count, squares, e, want, we)
	}
	for i := range want {
		if (heavy{largest[i], count[i], squares[i]}) != want[i] {
			t.Fatalf("Weighted(%v, %v, %v) = %v, %v, %v; expected %v", weights, l, order, largest, count, squares, want)
		}
	}
}

func giant(t *testing.T, l []api.Row, size, want int, wok bool) {
	t.Helper()
	if got, ok := sweep.Giant(l, size); got != want || ok != wok {
		t.Fatalf("Giant(%v, %d) = %d, %t; expected %d, %t", l, size, got, ok, want, wok)
	}
}

func jump(t *testing.T, l []api.Row, want, by int) {
	t.Helper()
	if at, got := sweep.Jump(l); at != want || got != by {
		t.Fatalf("Jump(%v) = %d, %d; expected %d, %d", l, at, got, want, by)
	}
}

// example are the edges of the chapter's examples, between 4 vertices.
var example = []api.Edge{edge(0, 1, 5), edge(2, 3, 1), edge(1, 2, 5), edge(0, 2, 9)}

// P27.1 to P27.6: the chapter's examples.
func TestExamples(t *testing.T) {
	first := []api.Row{row(1, 4, 4), row(2, 3, 6), row(2, 2, 8), row(4, 1, 16)}
	rows(t, 4, example, []int{0, 1, 2}, first, api.OK)
	rows(t, 4, example, []int{3, 2, 0}, []api.Row{row(1, 4, 4), row(2, 3, 6), row(3, 2, 10), row(3, 2, 10)}, api.OK)
	levels(t, 4, example, []api.Level{{Theta: 1, Row: row(2, 3, 6)}, {Theta: 5, Row: row(4, 1, 16)}, {Theta: 9, Row: row(4, 1, 16)}}, api.OK)
	random(t, 4, example, []uint64{3, 1, 0}, []api.Row{row(1, 4, 4), row(2, 3, 6), row(3, 2, 10), row(4, 1, 16), row(4, 1, 16)}, api.OK)
	giant(t, first, 3, 3, true)
	giant(t, first, 5, 0, false)
	jump(t, first, 3, 2)
	weighted(t, []int64{7, 0, 2, 1}, example, []int{0}, []heavy{{7, 4, 54}, {7, 3, 54}}, api.OK)
}

// P27.1 to P27.4: the errors of graph.New come first.
func TestGraphErrors(t *testing.T) {
	for _, c := range []struct {
		n    int
		l    []api.Edge
		want api.Errno
	}{
		{-1, nil, api.ErrArg}, {math.MinInt, nil, api.ErrArg}, {api.MaxVerts + 1, nil, api.ErrArg}, {math.MaxInt, nil, api.ErrArg},
		{-1, []api.Edge{edge(0, 0, 0)}, api.ErrArg}, {2, make([]api.Edge, api.MaxEdges+1), api.ErrArg},
		{2, []api.Edge{edge(0, 2, 0), edge(0, 0, 0), edge(0, 1, 0)}, api.ErrRange}, {2, []api.Edge{edge(0, 0, 0), edge(0, 2, 0), edge(0, 1, 0)}, api.ErrLoop},
		{2, []api.Edge{edge(-1, 0, 0)}, api.ErrRange}, {0, []api.Edge{edge(0, 1, 0)}, api.ErrRange},
	} {
		for _, order := range [][]int{nil, {0}, {-1}, {0, 0}} {
			if got, e := sweep.Rows(c.n, c.l, order); got != nil || e != c.want {
				t.Errorf("Rows(%d, %d edges, %v): error %d, expected %d", c.n, len(c.l), order, e, c.want)
			}
			if c.n < 0 || c.n > api.MaxVerts+1 {
				continue
			}
			for _, weight := range []int64{1, -1, api.MaxSize} {
				if a, b, d, e := sweep.Weighted(slices.Repeat([]int64{weight}, c.n), c.l, order); a != nil || b != nil || d != nil || e != c.want {
					t.Errorf("Weighted(%d weights, %d edges, %v): error %d, expected %d", c.n, len(c.l), order, e, c.want)
				}
			}
		}
		if got, e := sweep.Levels(c.n, c.l); got != nil || e != c.want {
			t.Errorf("Levels(%d, %d edges): error %d, expected %d", c.n, len(c.l), e, c.want)
		}
		if got, e := sweep.Random(c.n, c.l, nil); got != nil || e != c.want {
			t.Errorf("Random(%d, %d edges): error %d, expected %d", c.n, len(c.l), e, c.want)
		}
	}
}

// P27.1, P27.4: lists that are no orders, and the error that comes before that.
func TestNoOrders(t *testing.T) {
	for _, order := range [][]int{{4}, {-1}, {0, 1, 2, 3, 4}, {0, 0}, {0, 1, 0}, {3, 2, 2}, {math.MinInt}, {math.MaxInt}, {0, 1, 2, 3, 0}, slices.Repeat([]int{1}, 99999)} {
		rows(t, 4, example, order, nil, api.ErrArg)
		weighted(t, []int64{1, 1, 1, 1}, example, order, nil, api.ErrArg)
		weighted(t, []int64{1, 1, 1, api.MaxSize}, example, order, nil, api.ErrOver)
	}
	rows(t, 4, nil, []int{0}, nil, api.ErrArg)
}

// P27.4: weights that tally.New refuses.
func TestWeights(t *testing.T) {
	for _, w := range []int64{-1, api.MaxSize + 1, math.MinInt64, math.MaxInt64} {
		weighted(t, []int64{1, 1, w, 1}, example, nil, nil, api.ErrArg)
		weighted(t, []int64{api.MaxSize, 1, w, 1}, example, []int{9}, nil, api.ErrArg)
		weighted(t, []int64{w, 1, 1, 1}, []api.Edge{edge(0, 0, 1)}, nil, nil, api.ErrLoop)
	}
	weighted(t, []int64{3037000499, 1}, nil, nil, nil, api.ErrOver)
	weighted(t, []int64{3037000498, 1}, []api.Edge{edge(1, 0, 7)}, []int{0}, []heavy{{3037000498, 2, 3037000498*3037000498 + 1}, {3037000499, 1, 3037000499 * 3037000499}}, api.OK)
}

// P27.1 to P27.4: no edges, and no vertices.
func TestSmall(t *testing.T) {
	rows(t, 0, nil, nil, []api.Row{{}}, api.OK)
	rows(t, 3, nil, []int{}, []api.Row{row(1, 3, 3)}, api.OK)
	rows(t, 4, example, nil, []api.Row{row(1, 4, 4)}, api.OK)
	levels(t, 0, nil, nil, api.OK)
	levels(t, 3, nil, nil, api.OK)
	random(t, 0, nil, nil, []api.Row{{}}, api.OK)
	random(t, 3, nil, []uint64{5}, []api.Row{row(1, 3, 3)}, api.OK)
	weighted(t, nil, nil, nil, []heavy{{}}, api.OK)
	weighted(t, []int64{0}, nil, nil, []heavy{{0, 1, 0}}, api.OK)
	levels(t, 2, []api.Edge{edge(0, 1, math.MaxInt64), edge(0, 1, math.MinInt64)}, []api.Level{{Theta: math.MinInt64, Row: row(2, 1, 4)}, {Theta: math.MaxInt64, Row: row(2, 1, 4)}}, api.OK)
}

// P27.3: too few draws, and draws that are not used.
func TestDraws(t *testing.T) {
	one := []api.Edge{edge(0, 1, 1)}
	random(t, 2, one, nil, []api.Row{row(1, 2, 2), row(2, 1, 4)}, api.OK)
	random(t, 4, example, []uint64{3, 1}, nil, api.ErrDraws)
	random(t, 4, example, nil, nil, api.ErrDraws)
	random(t, 4, example, []uint64{7, 4, 2, 99}, []api.Row{row(1, 4, 4), row(2, 3, 6), row(3, 2, 10), row(4, 1, 16), row(4, 1, 16)}, api.OK)
	random(t, 4, append([]api.Edge{edge(2, 2, 0)}, example...), nil, nil, api.ErrLoop)
}

// P27.5, P27.6: rows that are not those of a sweep.
func TestGiantAndJump(t *testing.T) {
	l := []api.Row{row(4, 0, 0), row(9, 0, 0), row(2, 0, 0), row(7, 0, 0), row(12, 0, 0), row(12, 0, 0)}
	giant(t, l, 4, 0, true)
	giant(t, l, math.MinInt, 0, true)
	giant(t, l, 5, 1, true)
	giant(t, l, 10, 4, true)
	giant(t, l, 12, 4, true)
	giant(t, l, 13, 0, false)
	giant(t, l, math.MaxInt, 0, false)
	giant(t, nil, math.MinInt, 0, false)
	giant(t, []api.Row{row(-5, 0, 0)}, -5, 0, true)
	giant(t, []api.Row{row(-5, 0, 0)}, -4, 0, false)
	jump(t, l, 1, 5)
	jump(t, l[2:], 1, 5)
	jump(t, l[1:3], 0, 0)
	jump(t, l[4:], 0, 0)
	jump(t, l[:1], 0, 0)
	jump(t, nil, 0, 0)
	jump(t, []api.Row{row(0, 0, 0), row(api.MaxSize, 0, 0)}, 1, api.MaxSize)
	jump(t, []api.Row{row(3, 0, 0), row(4, 0, 0), row(6, 0, 0), row(8, 0, 0)}, 2, 2)
	for _, size := range []int{-1, api.MaxSize + 1, math.MinInt, math.MaxInt} {
		jump(t, []api.Row{row(size, 0, 0)}, 0, 0)
		jump(t, []api.Row{row(1, 0, 0), row(5, 0, 0), row(size, 0, 0)}, 0, 0)
		jump(t, []api.Row{row(size, 0, 0), row(1, 0, 0), row(5, 0, 0)}, 0, 0)
	}
}

// P1, P27.1 to P27.3: as many vertices and edges as there can be.
func TestLargestGraphs(t *testing.T) {
	const n = api.MaxVerts
	var l []api.Edge
	var order []int
	for i := range api.MaxEdges {
		l = append(l, edge(i%n, (i+1)%n, int64(i/n)))
		order = append(order, i)
	}
	got, e := sweep.Rows(n, l, order)
	if e != api.OK || len(got) != api.MaxEdges+1 || got[n-2] != row(n-1, 2, (n-1)*(n-1)+1) || got[n-1] != row(n, 1, n*n) || got[api.MaxEdges] != row(n, 1, n*n) {
		t.Errorf("Rows: %d, error %d", len(got), e)
	}
	all, e := sweep.Levels(n, l)
	if e != api.OK || len(all) != api.MaxEdges/n || all[0] != (api.Level{Theta: 0, Row: row(n, 1, n*n)}) {
		t.Errorf("Levels: %d, error %d", len(all), e)
	}
	drawn, e := sweep.Random(n, l, make([]uint64, api.MaxEdges-1))
	if e != api.OK || !slices.Equal(drawn, got) {
		t.Errorf("Random: %d, error %d", len(drawn), e)
	}
}

// R4
func TestMemory(t *testing.T) {
	l, order := append(slices.Clone(example), edge(9, 9, 9)), []int{0, 1, 2, 99}
	weights, draws := []int64{7, 0, 2, 1, 99}, []uint64{3, 1, 0, 99}
	for range 2 {
		a, _ := sweep.Rows(4, l[:4], order[:3])
		clear(a)
		b, _ := sweep.Levels(4, l[:4])
		clear(b)
		c, _ := sweep.Random(4, l[:4], draws[:3])
		clear(c)
		weighted(t, weights[:4], l[:4], order[:1], []heavy{{7, 4, 54}, {7, 3, 54}}, api.OK)
	}
	if !slices.Equal(l[:4], example) || l[4] != edge(9, 9, 9) || !slices.Equal(order, []int{0, 1, 2, 99}) ||
		!slices.Equal(weights, []int64{7, 0, 2, 1, 99}) || !slices.Equal(draws, []uint64{3, 1, 0, 99}) {
		t.Errorf("%v, %v, %v, %v", l, order, weights, draws)
	}
}
