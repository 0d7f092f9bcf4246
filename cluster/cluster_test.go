package cluster_test

import (
	"math"
	"slices"
	"testing"

	"seepage/api"
	"seepage/cluster"
)

const (
	least = math.MinInt64
	most  = math.MaxInt64
)

func edge(u, v int, w int64) api.Edge { return api.Edge{U: u, V: v, W: w} }

func made(t *testing.T, n int, l ...api.Edge) *cluster.View {
	t.Helper()
	v, e := cluster.New(n, l)
	if v == nil || e != api.OK {
		t.Fatalf("New(%d, %d edges) = %v, error %d", n, len(l), v, e)
	}
	return v
}

func of(t *testing.T, v *cluster.View, u int, theta int64, want api.Group, we api.Errno) {
	t.Helper()
	if got, e := v.Of(u, theta); got != want || e != we {
		t.Fatalf("Of(%d, %d) = %v, error %d; expected %v, error %d", u, theta, got, e, want, we)
	}
}

func members(t *testing.T, v *cluster.View, u int, theta int64, want []int, we api.Errno) {
	t.Helper()
	if got, e := v.Members(u, theta); !slices.Equal(got, want) || e != we {
		t.Fatalf("Members(%d, %d) = %v, error %d; expected %v, error %d", u, theta, got, e, want, we)
	}
}

// compare compares all that a view says about a threshold with the labels there.
func compare(t *testing.T, v *cluster.View, theta int64, labels ...int) {
	t.Helper()
	if got := v.Labels(theta); !slices.Equal(got, labels) {
		t.Fatalf("Labels(%d) = %v, expected %v", theta, got, labels)
	}
	var groups []api.Group
	row := api.Row{}
	for u, label := range labels {
		var all []int
		for w := range labels {
			if labels[w] == label {
				all = append(all, w)
			}
		}
		group := api.Group{Least: label, Size: len(all)}
		of(t, v, u, theta, group, api.OK)
		members(t, v, u, theta, all, api.OK)
		if u == label {
			groups = append(groups, group)
			row.Largest = max(row.Largest, group.Size)
			row.Count++
			row.Squares += int64(group.Size * group.Size)
		}
	}
	if got := v.All(theta); !slices.Equal(got, groups) {
		t.Fatalf("All(%d) = %v, expected %v", theta, got, groups)
	}
	if got := v.Count(theta); got != len(groups) {
		t.Fatalf("Count(%d) = %d, expected %d", theta, got, len(groups))
	}
	if got := v.Row(theta); got != row {
		t.Fatalf("Row(%d) = %v, expected %v", theta, got, row)
	}
}

func steps(t *testing.T, v *cluster.View, want ...int64) {
	t.Helper()
	if got := v.Steps(); !slices.Equal(got, want) {
		t.Fatalf("Steps: %v, expected %v", got, want)
	}
}

// P21.2 to P21.4: the chapter's examples.
func TestExamples(t *testing.T) {
	v := made(t, 6, edge(0, 1, 4), edge(1, 2, 2), edge(3, 4, 2), edge(2, 0, 3), edge(4, 2, 9))
	compare(t, v, 2, 0, 1, 1, 3, 3, 5)
	if got := v.All(2); !slices.Equal(got, []api.Group{{Least: 0, Size: 1}, {Least: 1, Size: 2}, {Least: 3, Size: 2}, {Least: 5, Size: 1}}) {
		t.Errorf("All: %v", got)
	}
	of(t, v, 4, 2, api.Group{Least: 3, Size: 2}, api.OK)
	members(t, v, 1, 3, []int{0, 1, 2}, api.OK)
	compare(t, v, 3, 0, 0, 0, 3, 3, 5)
	if got := v.Row(3); got != (api.Row{Largest: 3, Count: 3, Squares: 14}) {
		t.Errorf("Row: %v", got)
	}
	compare(t, v, 1, 0, 1, 2, 3, 4, 5)
	if got := v.Count(1); got != 6 {
		t.Errorf("Count: %d", got)
	}
	compare(t, v, 8, 0, 0, 0, 3, 3, 5)
	compare(t, v, 9, 0, 0, 0, 0, 0, 5)
	steps(t, v, 2, 3, 9)
}

// P21.1: the errors of graph.New, in its order.
func TestErrors(t *testing.T) {
	for _, c := range []struct {
		n    int
		l    []api.Edge
		want api.Errno
	}{
		{-1, nil, api.ErrArg}, {math.MinInt, nil, api.ErrArg}, {api.MaxVerts + 1, nil, api.ErrArg}, {math.MaxInt, nil, api.ErrArg},
		{-1, []api.Edge{edge(0, 0, 0)}, api.ErrArg}, {2, make([]api.Edge, api.MaxEdges+1), api.ErrArg},
		{2, []api.Edge{edge(0, 2, 0), edge(0, 0, 0)}, api.ErrRange}, {2, []api.Edge{edge(0, 0, 0), edge(0, 2, 0)}, api.ErrLoop},
		{2, []api.Edge{edge(-1, 0, 0)}, api.ErrRange}, {0, []api.Edge{edge(0, 1, 0)}, api.ErrRange},
	} {
		if v, e := cluster.New(c.n, c.l); v != nil || e != c.want {
			t.Errorf("New(%d, %d edges): error %d, expected %d", c.n, len(c.l), e, c.want)
		}
	}
}

// P21.2 to P21.4: no vertices, no edges, and weights at the ends of the range.
func TestEnds(t *testing.T) {
	empty := made(t, 0)
	lonely := made(t, 3)
	for _, theta := range []int64{least, 0, most} {
		compare(t, empty, theta)
		compare(t, lonely, theta, 0, 1, 2)
	}
	steps(t, empty)
	steps(t, lonely)
	v := made(t, 5, edge(3, 1, most), edge(4, 2, least), edge(2, 1, most-1), edge(0, 3, most), edge(4, 1, most))
	compare(t, v, least, 0, 1, 2, 3, 2)
	compare(t, v, least+1, 0, 1, 2, 3, 2)
	compare(t, v, most-2, 0, 1, 2, 3, 2)
	compare(t, v, most-1, 0, 1, 1, 3, 1)
	compare(t, v, most, 0, 0, 0, 0, 0)
	steps(t, v, least, most-1, most)
	// The weight 5 merges nothing, and 3 merges twice.
	v = made(t, 4, edge(0, 1, 3), edge(1, 2, 3), edge(0, 2, 5), edge(0, 1, 5), edge(2, 3, 6))
	steps(t, v, 3, 6)
}

// P21.2: numbers that are no vertices, also if there is an inner node of the tree
// with this number.
func TestNoVertices(t *testing.T) {
	v := made(t, 3, edge(0, 1, 4), edge(1, 2, 7))
	for _, u := range []int{-1, 3, 4, 5, math.MinInt, math.MaxInt} {
		for _, theta := range []int64{least, 5, most} {
			of(t, v, u, theta, api.Group{}, api.ErrRange)
			members(t, v, u, theta, nil, api.ErrRange)
		}
	}
	of(t, made(t, 0), 0, 0, api.Group{}, api.ErrRange)
	members(t, made(t, 0), 0, 0, nil, api.ErrRange)
}

// P21.2 to P21.4: as many vertices as there can be.
func TestLargestGraphs(t *testing.T) {
	const n = api.MaxVerts
	var l []api.Edge
	for u := range n - 1 {
		l = append(l, edge(u, u+1, int64(u)))
	}
	v := made(t, n, l...)
	of(t, v, n-1, n-2, api.Group{Least: 0, Size: n}, api.OK)
	of(t, v, n-1, n-3, api.Group{Least: n - 1, Size: 1}, api.OK)
	if got := v.Row(n - 2); got != (api.Row{Largest: n, Count: 1, Squares: n * n}) {
		t.Errorf("Row: %v", got)
	}
	if got := v.Row(999); got != (api.Row{Largest: 1001, Count: n - 1000, Squares: 1001*1001 + n - 1001}) {
		t.Errorf("Row: %v", got)
	}
	if got := v.Steps(); len(got) != n-1 || got[n-2] != n-2 {
		t.Errorf("Steps: %d", len(got))
	}
	if got, e := v.Members(0, 2000); len(got) != 2002 || e != api.OK {
		t.Errorf("Members: %d, error %d", len(got), e)
	}
}

// R4
func TestMemory(t *testing.T) {
	l := []api.Edge{edge(0, 1, 4), edge(1, 2, 7), edge(9, 9, 9)}
	v := made(t, 3, l[:2]...)
	clear(l[:2])
	clear(v.Steps())
	clear(v.Labels(7))
	clear(v.All(7))
	got, _ := v.Members(0, 7)
	clear(got)
	compare(t, v, 4, 0, 0, 2)
	compare(t, v, 7, 0, 0, 0)
	steps(t, v, 4, 7)
	if l[2] != edge(9, 9, 9) {
		t.Errorf("%v", l)
	}
}

// R2
func TestNotValid(t *testing.T) {
	for _, v := range []*cluster.View{nil, {}} {
		for _, u := range []int{-1, 0, 1} {
			of(t, v, u, 0, api.Group{}, api.ErrNil)
			members(t, v, u, 0, nil, api.ErrNil)
		}
		if v.All(0) != nil || v.Count(0) != 0 || v.Labels(0) != nil || v.Steps() != nil || v.Row(0) != (api.Row{}) {
			t.Errorf("All %v, Count %d, Labels %v, Steps %v, Row %v", v.All(0), v.Count(0), v.Labels(0), v.Steps(), v.Row(0))
		}
	}
}
