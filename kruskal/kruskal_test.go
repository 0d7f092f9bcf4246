package kruskal_test

import (
	"math"
	"slices"
	"testing"

	"seepage/api"
	"seepage/kruskal"
)

const (
	least = math.MinInt64
	most  = math.MaxInt64
)

func edge(u, v int, w int64) api.Edge { return api.Edge{U: u, V: v, W: w} }

func order(t *testing.T, l []api.Edge, want ...int) {
	t.Helper()
	if got := kruskal.Order(l); !slices.Equal(got, want) {
		t.Fatalf("Order(%v) = %v, expected %v", l, got, want)
	}
}

func forest(t *testing.T, n int, l []api.Edge, want []int, we api.Errno) {
	t.Helper()
	if got, e := kruskal.Forest(n, l); !slices.Equal(got, want) || e != we {
		t.Fatalf("Forest(%d, %v) = %v, error %d; expected %v, error %d", n, l, got, e, want, we)
	}
}

func weight(t *testing.T, n int, l []api.Edge, want int64, we api.Errno) {
	t.Helper()
	if got, e := kruskal.Weight(n, l); got != want || e != we {
		t.Fatalf("Weight(%d, %v) = %d, error %d; expected %d, error %d", n, l, got, e, want, we)
	}
}

func spans(t *testing.T, n int, l []api.Edge, pick []int, want bool, we api.Errno) {
	t.Helper()
	if got, e := kruskal.Spans(n, l, pick); got != want || e != we {
		t.Fatalf("Spans(%d, %v, %v) = %t, error %d; expected %t, error %d", n, l, pick, got, e, want, we)
	}
}

func minimal(t *testing.T, n int, l []api.Edge, pick []int, want bool, we api.Errno) {
	t.Helper()
	if got, e := kruskal.Minimal(n, l, pick); got != want || e != we {
		t.Fatalf("Minimal(%d, %v, %v) = %t, error %d; expected %t, error %d", n, l, pick, got, e, want, we)
	}
}

func swap(t *testing.T, n int, l []api.Edge, extra api.Edge, want int, we api.Errno) {
	t.Helper()
	if got, e := kruskal.Swap(n, l, extra); got != want || e != we {
		t.Fatalf("Swap(%d, %v, %v) = %d, error %d; expected %d, error %d", n, l, extra, got, e, want, we)
	}
}

// example are the edges of the chapter's examples, between 6 vertices.
var example = []api.Edge{edge(0, 1, 4), edge(1, 2, 2), edge(2, 0, 2), edge(0, 1, 1), edge(3, 4, -5)}

// P17.1 to P17.4: the chapter's examples.
func TestExamples(t *testing.T) {
	order(t, example, 4, 3, 1, 2, 0)
	forest(t, 6, example, []int{4, 3, 1}, api.OK)
	weight(t, 6, example, -2, api.OK)
	spans(t, 6, example, []int{4, 3, 2}, true, api.OK)
	spans(t, 6, example, []int{4, 1, 2}, true, api.OK)
	spans(t, 6, example, []int{4, 3}, false, api.OK)
	spans(t, 6, example, []int{3, 0, 4}, false, api.OK)
	minimal(t, 6, example, []int{4, 3, 2}, true, api.OK)
	minimal(t, 6, example, []int{4, 1, 2}, false, api.OK)
	swap(t, 6, example, edge(0, 2, 1), 1, api.OK)
	swap(t, 6, example, edge(0, 2, 2), -1, api.OK)
	swap(t, 6, example, edge(0, 5, 0), -1, api.OK)
}

// P17.1: edges that are not those of a graph, and more of them than a graph can have.
func TestOrder(t *testing.T) {
	order(t, nil)
	order(t, []api.Edge{edge(-7, -7, most), edge(math.MaxInt, 0, 0), edge(3, 3, least), edge(0, 0, 0), edge(1, 2, least)}, 2, 4, 1, 3, 0)
	const n = api.MaxEdges + 100
	got := kruskal.Order(make([]api.Edge, n))
	for i := range n {
		if got[i] != i {
			t.Fatalf("Order of equal weights: %d at %d", got[i], i)
		}
	}
}

// P17.2 to P17.4: the errors of graph.New come first.
func TestErrors(t *testing.T) {
	good := []api.Edge{edge(0, 1, 1)}
	for _, c := range []struct {
		n    int
		l    []api.Edge
		want api.Errno
	}{
		{-1, nil, api.ErrArg}, {math.MinInt, nil, api.ErrArg}, {api.MaxVerts + 1, nil, api.ErrArg}, {math.MaxInt, good, api.ErrArg},
		{2, make([]api.Edge, api.MaxEdges+1), api.ErrArg},
		{2, []api.Edge{edge(0, 2, 1), edge(1, 1, 1)}, api.ErrRange}, {2, []api.Edge{edge(1, 1, 1), edge(0, 2, 1)}, api.ErrLoop},
		{0, good, api.ErrRange}, {2, []api.Edge{edge(-1, 0, 1)}, api.ErrRange},
	} {
		if got, e := kruskal.Forest(c.n, c.l); got != nil || e != c.want {
			t.Errorf("Forest(%d, %d edges) = %v, error %d; expected %d", c.n, len(c.l), got, e, c.want)
		}
		if got, e := kruskal.Weight(c.n, c.l); got != 0 || e != c.want {
			t.Errorf("Weight(%d, %d edges) = %v, error %d; expected %d", c.n, len(c.l), got, e, c.want)
		}
		for _, pick := range [][]int{nil, {0}, {-1}, {0, 0}} {
			if got, e := kruskal.Spans(c.n, c.l, pick); got || e != c.want {
				t.Errorf("Spans(%d, %d edges) = %v, error %d; expected %d", c.n, len(c.l), got, e, c.want)
			}
			if got, e := kruskal.Minimal(c.n, c.l, pick); got || e != c.want {
				t.Errorf("Minimal(%d, %d edges) = %v, error %d; expected %d", c.n, len(c.l), got, e, c.want)
			}
		}
		for _, extra := range []api.Edge{edge(0, 1, 0), edge(0, 0, 0), edge(-1, 0, 0)} {
			if got, e := kruskal.Swap(c.n, c.l, extra); got != 0 || e != c.want {
				t.Errorf("Swap(%d, %d edges) = %v, error %d; expected %d", c.n, len(c.l), got, e, c.want)
			}
		}
	}
}

// P17.3, P17.4: indexes that are not those of edges, and edges that are not those
// of the graph.
func TestBadArguments(t *testing.T) {
	for _, i := range []int{-1, 5, math.MinInt, math.MaxInt} {
		for _, pick := range [][]int{{i}, {4, 3, i}, {i, 0, 0}, {0, 0, i}, {i, i}} {
			spans(t, 6, example, pick, false, api.ErrRange)
			minimal(t, 6, example, pick, false, api.ErrRange)
		}
	}
	for _, pick := range [][]int{{0, 0}, {4, 3, 1, 4}, {4, 3, 0, 0}, {0, 1, 2, 3, 4, 0}} {
		spans(t, 6, example, pick, false, api.ErrHave)
		minimal(t, 6, example, pick, false, api.ErrHave)
	}
	for _, v := range []int{-1, 6, math.MinInt, math.MaxInt} {
		swap(t, 6, example, edge(v, 0, 0), 0, api.ErrRange)
		swap(t, 6, example, edge(0, v, 0), 0, api.ErrRange)
		swap(t, 6, example, edge(v, v, 0), 0, api.ErrRange)
	}
	swap(t, 6, example, edge(3, 3, 0), 0, api.ErrLoop)
	swap(t, 0, nil, edge(0, 0, 0), 0, api.ErrRange)
}

// P17.2: sums at the ends of 64 bits, and beyond them on the way.
func TestWeight(t *testing.T) {
	path := func(weights ...int64) []api.Edge {
		var l []api.Edge
		for i, w := range weights {
			l = append(l, edge(i, i+1, w))
		}
		return l
	}
	weight(t, 0, nil, 0, api.OK)
	weight(t, 4, nil, 0, api.OK)
	weight(t, 4, path(most), most, api.OK)
	weight(t, 4, path(most, 1), 0, api.ErrOver)
	weight(t, 4, path(most, 1, -1), most, api.OK)
	weight(t, 4, path(least, 0), least, api.OK)
	weight(t, 4, path(least, -1), 0, api.ErrOver)
	weight(t, 5, path(most, most, least, least), -2, api.OK)
	// The heavier one of two parallel edges does not count.
	weight(t, 2, []api.Edge{edge(0, 1, most), edge(1, 0, 3)}, 3, api.OK)
}

// P17.3: what is no spanning forest, and which ones are minimal.
func TestSpans(t *testing.T) {
	spans(t, 0, nil, nil, true, api.OK)
	minimal(t, 0, nil, nil, true, api.OK)
	spans(t, 3, nil, []int{}, true, api.OK)
	spans(t, 6, example, nil, false, api.OK)
	minimal(t, 6, example, nil, false, api.OK)
	// As many edges as a spanning forest has, with a cycle.
	spans(t, 6, example, []int{0, 1, 2}, false, api.OK)
	minimal(t, 6, example, []int{0, 1, 2}, false, api.OK)
	// A spanning forest, and an edge that closes a cycle.
	spans(t, 6, example, []int{4, 3, 1, 2}, false, api.OK)
	minimal(t, 6, example, []int{2, 4, 3}, true, api.OK)
	// The sums of these do not fit in 64 bits, and two of them are the same modulo 2^64.
	big := []api.Edge{edge(0, 1, most), edge(1, 2, most), edge(1, 2, most-1), edge(0, 1, 2), edge(0, 1, least), edge(2, 0, least+1)}
	spans(t, 3, big, []int{0, 1}, true, api.OK)
	minimal(t, 3, big, []int{0, 1}, false, api.OK)
	minimal(t, 3, big, []int{4, 5}, true, api.OK)
	minimal(t, 3, big, []int{4, 1}, false, api.OK)
	minimal(t, 3, big[:3], []int{0, 2}, true, api.OK)
	minimal(t, 3, big[:3], []int{0, 1}, false, api.OK)
}

// P17.4: the last edge of the cycle, and as many edges as there can be.
func TestSwap(t *testing.T) {
	l := []api.Edge{edge(0, 1, 5), edge(1, 2, 7), edge(2, 3, 7), edge(3, 4, 6), edge(0, 4, 7), edge(4, 5, 9)}
	forest(t, 6, l, []int{0, 3, 1, 2, 5}, api.OK)
	swap(t, 6, l, edge(4, 0, 6), 2, api.OK)
	swap(t, 6, l, edge(0, 4, least), 2, api.OK)
	swap(t, 6, l, edge(0, 4, 7), -1, api.OK)
	swap(t, 6, l, edge(0, 4, most), -1, api.OK)
	swap(t, 6, l, edge(0, 2, 6), 1, api.OK)
	swap(t, 6, l, edge(3, 4, 5), 3, api.OK)
	swap(t, 6, l, edge(3, 4, 6), -1, api.OK)
	swap(t, 6, l, edge(0, 5, 8), 5, api.OK)
	const n = api.MaxVerts
	var path []api.Edge
	for v := range n - 1 {
		path = append(path, edge(v+1, v, int64(v)))
	}
	swap(t, n, path, edge(0, n-1, 0), n-2, api.OK)
	full := slices.Concat(path, slices.Repeat([]api.Edge{edge(0, n-1, n)}, api.MaxEdges-len(path)))
	swap(t, n, full, edge(n-1, 0, n-3), n-2, api.OK)
	swap(t, n, full, edge(n-1, 0, n-2), -1, api.OK)
	spans(t, n, full, kruskal.Order(path), true, api.OK)
}

// R4
func TestMemory(t *testing.T) {
	l := slices.Clone(example)
	pick := []int{4, 3, 2, 99}
	minimal(t, 6, l, pick[:3], true, api.OK)
	spans(t, 6, l, pick[:3], true, api.OK)
	swap(t, 6, l[:4], edge(0, 2, 1), 1, api.OK)
	clear(kruskal.Order(l))
	if got, _ := kruskal.Forest(6, l); len(got) == 3 {
		clear(got)
	}
	forest(t, 6, l, []int{4, 3, 1}, api.OK)
	if !slices.Equal(l, example) || !slices.Equal(pick, []int{4, 3, 2, 99}) {
		t.Errorf("%v, %v", l, pick)
	}
}
