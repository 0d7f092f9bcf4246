package graph_test

import (
	"math"
	"slices"
	"testing"

	"seepage/api"
	"seepage/graph"
)

const (
	least = math.MinInt64
	most  = math.MaxInt64
)

func made(t *testing.T, n int, l ...api.Edge) *graph.Graph {
	t.Helper()
	g, e := graph.New(n, l)
	if g == nil || e != api.OK {
		t.Fatalf("New(%d, %v) = %v, error %d", n, l, g, e)
	}
	return g
}

func refused(t *testing.T, n int, l []api.Edge, want api.Errno) {
	t.Helper()
	if g, e := graph.New(n, l); g != nil || e != want {
		t.Errorf("New(%d, %d edges) = %v, error %d; expected %d", n, len(l), g, e, want)
	}
}

func strength(t *testing.T, g *graph.Graph, v int, want int64, we api.Errno) {
	t.Helper()
	if got, e := g.Strength(v); got != want || e != we {
		t.Errorf("Strength(%d) = %d, error %d; expected %d, error %d", v, got, e, want, we)
	}
}

func around(g *graph.Graph, v int) [][2]int {
	var l [][2]int
	for i, other := range g.Around(v) {
		l = append(l, [2]int{i, other})
	}
	return l
}

// P13.1
func TestNew(t *testing.T) {
	for _, n := range []int{0, 1, 2, api.MaxVerts} {
		if g := made(t, n); g.N() != n || len(g.Edges()) != 0 {
			t.Errorf("N %d, %d edges", g.N(), len(g.Edges()))
		}
	}
	edge := func(u, v int) api.Edge { return api.Edge{U: u, V: v, W: 1} }
	for _, n := range []int{-1, math.MinInt, api.MaxVerts + 1, math.MaxInt} {
		refused(t, n, nil, api.ErrArg)
		refused(t, n, []api.Edge{edge(0, 0)}, api.ErrArg)
	}
	many := slices.Repeat([]api.Edge{edge(0, 1)}, api.MaxEdges)
	if g := made(t, 2, many...); g.Degree(1) != api.MaxEdges {
		t.Errorf("Degree %d", g.Degree(1))
	}
	refused(t, 2, append(many, edge(0, 1)), api.ErrArg)
	refused(t, 2, append(many, edge(1, 1)), api.ErrArg)
	refused(t, 2, []api.Edge{edge(0, 0)}, api.ErrLoop)
	refused(t, 2, []api.Edge{edge(0, 2), edge(1, 1)}, api.ErrRange)
	refused(t, 2, []api.Edge{edge(1, 1), edge(0, 2)}, api.ErrLoop)
	refused(t, 2, []api.Edge{edge(0, 1), edge(2, 2)}, api.ErrRange)
	refused(t, 0, []api.Edge{edge(0, 0)}, api.ErrRange)
	for _, v := range []int{-1, 2, math.MinInt, math.MaxInt} {
		refused(t, 2, []api.Edge{edge(0, v)}, api.ErrRange)
		refused(t, 2, []api.Edge{edge(v, 0)}, api.ErrRange)
		refused(t, 2, []api.Edge{edge(v, v)}, api.ErrRange)
	}
}

// P13.2 to P13.7: the chapter's examples.
func TestExamples(t *testing.T) {
	l := []api.Edge{{U: 0, V: 1, W: 5}, {U: 1, V: 2, W: 3}, {U: 1, V: 0, W: -2}}
	g := made(t, 4, l...)
	if g.N() != 4 || !slices.Equal(g.Edges(), l) || g.Degree(1) != 3 || g.Degree(3) != 0 {
		t.Errorf("N %d, Edges %v, Degree %d", g.N(), g.Edges(), g.Degree(1))
	}
	strength(t, g, 1, 6, api.OK)
	strength(t, g, 3, 0, api.OK)
	if got := around(g, 1); !slices.Equal(got, [][2]int{{0, 0}, {1, 2}, {2, 0}}) {
		t.Errorf("Around(1): %v", got)
	}
	if got := g.Labels(); !slices.Equal(got, []int{0, 0, 0, 3}) {
		t.Errorf("Labels: %v", got)
	}
	if got := g.Components(); !slices.EqualFunc(got, [][]int{{0, 1, 2}, {3}}, slices.Equal) {
		t.Errorf("Components: %v", got)
	}
	if got := g.Dist(2); !slices.Equal(got, []int{2, 1, 0, -1}) {
		t.Errorf("Dist(2): %v", got)
	}
	if row := g.Row(); row != (api.Row{Largest: 3, Count: 2, Squares: 10}) {
		t.Errorf("Row: %v", row)
	}
	if u := g.Under(3); u.N() != 4 || !slices.Equal(u.Edges(), l[1:]) {
		t.Errorf("Under(3): %v", u.Edges())
	}
	if u := g.Under(-3); len(u.Edges()) != 0 || u.Row() != (api.Row{Largest: 1, Count: 4, Squares: 4}) {
		t.Errorf("Under(-3): %v, Row %v", u.Edges(), u.Row())
	}
	if row := made(t, 0).Row(); row != (api.Row{}) {
		t.Errorf("Row without vertices: %v", row)
	}
}

// P13.3: sums at the ends of 64 bits, and far beyond them on the way.
func TestStrength(t *testing.T) {
	star := func(weights ...int64) *graph.Graph {
		l := []api.Edge{{U: 2, V: 1, W: most}}
		for _, w := range weights {
			l = append(l, api.Edge{U: 1, V: 0, W: w})
		}
		return made(t, 3, l...)
	}
	strength(t, star(), 0, 0, api.OK)
	strength(t, star(most), 0, most, api.OK)
	strength(t, star(most, 1), 0, 0, api.ErrOver)
	strength(t, star(most, 1, -1), 0, most, api.OK)
	strength(t, star(least), 0, least, api.OK)
	strength(t, star(least, -1), 0, 0, api.ErrOver)
	strength(t, star(most, most, least, least), 0, -2, api.OK)
	strength(t, star(most, most, 2), 0, 0, api.ErrOver)
	strength(t, star(1), 1, 0, api.ErrOver)
	strength(t, star(-1), 1, most-1, api.OK)
}

// P13.3, P13.5: numbers that are no vertices.
func TestNoVertices(t *testing.T) {
	g := made(t, 2, api.Edge{U: 0, V: 1, W: 4})
	for _, v := range []int{-1, 2, math.MinInt, math.MaxInt} {
		strength(t, g, v, 0, api.ErrRange)
		if g.Degree(v) != 0 || g.Around(v) == nil || len(around(g, v)) != 0 || g.Dist(v) != nil {
			t.Errorf("Degree(%d) = %d, Around %v, Dist %v", v, g.Degree(v), around(g, v), g.Dist(v))
		}
	}
	if made(t, 0).Dist(0) != nil {
		t.Errorf("Dist without vertices: %v", made(t, 0).Dist(0))
	}
}

// P13.6: the ends of the range of thresholds.
func TestUnder(t *testing.T) {
	l := []api.Edge{{U: 0, V: 1, W: most}, {U: 1, V: 2, W: least}, {U: 1, V: 2, W: 0}}
	g := made(t, 3, l...)
	for _, c := range []struct {
		theta int64
		want  []api.Edge
	}{{most, l}, {most - 1, l[1:]}, {0, l[1:]}, {-1, l[1:2]}, {least, l[1:2]}} {
		u := g.Under(c.theta)
		if u.N() != 3 || !slices.Equal(u.Edges(), c.want) {
			t.Errorf("Under(%d): %v, expected %v", c.theta, u.Edges(), c.want)
		}
	}
	if u := made(t, 2, l[0]).Under(0); u.Degree(0) != 0 || u.Labels()[1] != 1 {
		t.Errorf("Under: %v", u.Edges())
	}
}

// R7
func TestIterator(t *testing.T) {
	g := made(t, 3, []api.Edge{{U: 0, V: 1}, {U: 0, V: 2}, {U: 2, V: 0}}...)
	seq := g.Around(0)
	n := 0
	for range seq {
		if n++; n == 2 {
			break
		}
	}
	for range 2 {
		var got [][2]int
		for i, other := range seq {
			got = append(got, [2]int{i, other})
		}
		if !slices.Equal(got, [][2]int{{0, 1}, {1, 2}, {2, 2}}) || n != 2 {
			t.Errorf("Around: %v, stopped at %d", got, n)
		}
	}
}

// R4
func TestMemory(t *testing.T) {
	whole := []api.Edge{{U: 0, V: 1, W: 1}, {U: 1, V: 2, W: 2}, {U: 7, V: 7, W: 7}}
	g := made(t, 3, whole[:2]...)
	u := g.Under(2)
	clear(whole[:2])
	clear(g.Edges())
	clear(u.Edges())
	clear(g.Labels())
	clear(g.Dist(0))
	groups := g.Components()
	clear(append(groups[0], 9))
	for _, g := range []*graph.Graph{g, u} {
		if l := g.Edges(); !slices.Equal(l, []api.Edge{{U: 0, V: 1, W: 1}, {U: 1, V: 2, W: 2}}) {
			t.Errorf("Edges: %v", l)
		}
		if got := g.Dist(0); !slices.Equal(got, []int{0, 1, 2}) || !slices.Equal(g.Labels(), []int{0, 0, 0}) {
			t.Errorf("Dist: %v, Labels %v", got, g.Labels())
		}
	}
	if whole[2] != (api.Edge{U: 7, V: 7, W: 7}) {
		t.Errorf("behind the end: %v", whole[2])
	}
}

// R2
func TestNotValid(t *testing.T) {
	for _, g := range []*graph.Graph{nil, {}} {
		for _, v := range []int{-1, 0, 1} {
			strength(t, g, v, 0, api.ErrNil)
			if g.Degree(v) != 0 || g.Around(v) == nil || len(around(g, v)) != 0 || g.Dist(v) != nil || g.Under(int64(v)) != nil {
				t.Errorf("Degree %d, Around %v, Dist %v, Under %v", g.Degree(v), around(g, v), g.Dist(v), g.Under(int64(v)))
			}
		}
		if g.N() != 0 || g.Edges() != nil || g.Labels() != nil || g.Components() != nil || g.Row() != (api.Row{}) {
			t.Errorf("N %d, Edges %v, Labels %v, Components %v, Row %v", g.N(), g.Edges(), g.Labels(), g.Components(), g.Row())
		}
	}
}
