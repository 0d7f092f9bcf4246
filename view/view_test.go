package view_test

import (
	"math"
	"slices"
	"testing"

	"seepage/api"
	"seepage/view"
	"seepage/window"
)

const (
	least = math.MinInt64
	most  = math.MaxInt64
)

func config(length int64, edges, verts, draws int) api.Config {
	return api.Config{Window: length, Edges: edges, Verts: verts, Draws: draws}
}

// made returns a window with these edges, and a view of it.
func made(t *testing.T, c api.Config, l ...api.Rec) (*window.Window, *view.View) {
	t.Helper()
	w, e := window.New(c)
	if e != api.OK {
		t.Fatalf("window.New(%v): error %d", c, e)
	}
	for _, r := range l {
		add(t, w, r.U, r.V, r.W, r.T)
	}
	v, e := view.New(w)
	if v == nil || e != api.OK {
		t.Fatalf("New = %v, error %d", v, e)
	}
	return w, v
}

func add(t *testing.T, w *window.Window, u, v uint64, weight, at int64) {
	t.Helper()
	if e := w.Add(api.Rec{U: u, V: v, W: weight, T: at}); e != api.OK {
		t.Fatalf("window.Add(%d, %d, %d, %d): error %d", u, v, weight, at, e)
	}
}

func tick(t *testing.T, w *window.Window, to int64) {
	t.Helper()
	if e := w.Tick(to); e != api.OK {
		t.Fatalf("window.Tick(%d): error %d", to, e)
	}
}

func graph(t *testing.T, v *view.View, ids []uint64, edges ...api.Edge) {
	t.Helper()
	if a, b := v.Graph(); !slices.Equal(a, ids) || !slices.Equal(b, edges) {
		t.Errorf("Graph = %v, %v; expected %v, %v", a, b, ids, edges)
	}
}

func one(t *testing.T, v *view.View, u uint64, theta int64, want view.Group, we api.Errno) {
	t.Helper()
	if got, e := v.Cluster(u, theta); got != want || e != we {
		t.Errorf("Cluster(%d, %d) = %v, error %d; expected %v, error %d", u, theta, got, e, want, we)
	}
}

func clusters(t *testing.T, v *view.View, theta int64, want ...view.Group) {
	t.Helper()
	if got := v.Clusters(theta); !slices.Equal(got, want) {
		t.Errorf("Clusters(%d) = %v, expected %v", theta, got, want)
	}
}

func minimax(t *testing.T, v *view.View, a, b uint64, want int64, wok bool, we api.Errno) {
	t.Helper()
	if got, ok, e := v.Minimax(a, b); got != want || ok != wok || e != we {
		t.Errorf("Minimax(%d, %d) = %d, %t, error %d; expected %d, %t, error %d", a, b, got, ok, e, want, wok, we)
	}
}

func merges(t *testing.T, v *view.View, ids [][2]uint64, heights ...int64) {
	t.Helper()
	if a, b := v.Merges(); !slices.Equal(a, ids) || !slices.Equal(b, heights) {
		t.Errorf("Merges = %v, %v; expected %v, %v", a, b, ids, heights)
	}
}

func levels(t *testing.T, v *view.View, want ...api.Level) {
	t.Helper()
	if got := v.Levels(); !slices.Equal(got, want) {
		t.Errorf("Levels = %v, expected %v", got, want)
	}
}

func random(t *testing.T, v *view.View, draws []uint64, we api.Errno, want ...api.Row) {
	t.Helper()
	if got, e := v.Random(draws); !slices.Equal(got, want) || e != we {
		t.Errorf("Random(%d draws) = %v, error %d; expected %v, error %d", len(draws), got, e, want, we)
	}
}

func histogram(t *testing.T, v *view.View, theta int64, bounds []int64, we api.Errno, want ...int64) {
	t.Helper()
	if got, e := v.Histogram(theta, bounds); !slices.Equal(got, want) || e != we {
		t.Errorf("Histogram(%d, %d bounds) = %v, error %d; expected %v, error %d", theta, len(bounds), got, e, want, we)
	}
}

func bridges(t *testing.T, v *view.View, want ...uint64) {
	t.Helper()
	if got := v.Bridges(); !slices.Equal(got, want) {
		t.Errorf("Bridges = %v, expected %v", got, want)
	}
}

func cores(t *testing.T, v *view.View, ids []uint64, numbers ...int) {
	t.Helper()
	if a, b := v.Cores(); !slices.Equal(a, ids) || !slices.Equal(b, numbers) {
		t.Errorf("Cores = %v, %v; expected %v, %v", a, b, ids, numbers)
	}
}

func builds(t *testing.T, v *view.View, want int) {
	t.Helper()
	if got := v.Builds(); got != want {
		t.Errorf("Builds = %d, expected %d", got, want)
	}
}

// example is the window of the chapter's examples.
func example() []api.Rec {
	return []api.Rec{{U: 1, V: 2, W: 5, T: 0}, {U: 2, V: 3, W: 7, T: 4}, {U: 1, V: 3, W: 9, T: 6}}
}

// P38.1 to P38.8: the chapter's examples.
func TestExamples(t *testing.T) {
	w, v := made(t, config(10, 5, 5, 5), example()...)
	graph(t, v, []uint64{1, 2, 3}, api.Edge{U: 0, V: 1, W: 5}, api.Edge{U: 1, V: 2, W: 7}, api.Edge{U: 0, V: 2, W: 9})
	builds(t, v, 0)
	one(t, v, 3, 6, view.Group{Least: 3, Size: 1}, api.OK)
	one(t, v, 3, 7, view.Group{Least: 1, Size: 3}, api.OK)
	one(t, v, 4, 7, view.Group{}, api.ErrVert)
	clusters(t, v, 5, view.Group{Least: 1, Size: 2}, view.Group{Least: 3, Size: 1})
	minimax(t, v, 1, 3, 7, true, api.OK)
	minimax(t, v, 2, 2, least, true, api.OK)
	merges(t, v, [][2]uint64{{1, 2}, {1, 3}}, 5, 7)
	levels(t, v, api.Level{Theta: 5, Row: api.Row{Largest: 2, Count: 2, Squares: 5}}, api.Level{Theta: 7, Row: api.Row{Largest: 3, Count: 1, Squares: 9}}, api.Level{Theta: 9, Row: api.Row{Largest: 3, Count: 1, Squares: 9}})
	random(t, v, []uint64{0}, api.ErrDraws)
	random(t, v, []uint64{2, 0}, api.OK, api.Row{Largest: 1, Count: 3, Squares: 3}, api.Row{Largest: 2, Count: 2, Squares: 5}, api.Row{Largest: 3, Count: 1, Squares: 9}, api.Row{Largest: 3, Count: 1, Squares: 9})
	histogram(t, v, 5, []int64{2}, api.OK, 1, 1)
	bridges(t, v)
	cores(t, v, []uint64{1, 2, 3}, 2, 2, 2)
	builds(t, v, 1)
	tick(t, w, 10)
	builds(t, v, 1)
	merges(t, v, [][2]uint64{{2, 3}, {1, 2}}, 7, 9)
	builds(t, v, 2)
}

// P38.1 to P38.8: the dendrogram after the first edge is gone.
func TestLater(t *testing.T) {
	w, v := made(t, config(10, 5, 5, 5), example()...)
	merges(t, v, [][2]uint64{{1, 2}, {1, 3}}, 5, 7)
	tick(t, w, 10)
	graph(t, v, []uint64{1, 2, 3}, api.Edge{U: 1, V: 2, W: 7}, api.Edge{U: 0, V: 2, W: 9})
	merges(t, v, [][2]uint64{{2, 3}, {1, 2}}, 7, 9)
	clusters(t, v, 8, view.Group{Least: 1, Size: 1}, view.Group{Least: 2, Size: 2})
	bridges(t, v, 2, 3)
	cores(t, v, []uint64{1, 2, 3}, 1, 1, 1)
	builds(t, v, 2)
	minimax(t, v, 1, 2, 9, true, api.OK)
	builds(t, v, 2)
}

// P38.1 to P38.8: a window without edges.
func TestEmpty(t *testing.T) {
	_, v := made(t, config(10, 5, 5, 5))
	graph(t, v, nil)
	levels(t, v)
	random(t, v, nil, api.OK, api.Row{})
	random(t, v, []uint64{1, 2, 3, 4, 5}, api.OK, api.Row{})
	random(t, v, []uint64{1, 2, 3, 4, 5, 6}, api.ErrDraws)
	bridges(t, v)
	cores(t, v, nil)
	one(t, v, 0, most, view.Group{}, api.ErrVert)
	minimax(t, v, 0, 0, 0, false, api.ErrVert)
	builds(t, v, 0)
	clusters(t, v, most)
	builds(t, v, 1)
	merges(t, v, nil)
	histogram(t, v, most, nil, api.OK, 0)
	builds(t, v, 1)
}

// P38.2, P38.3, P38.6, P38.8: which calls build the dendrogram, and when.
func TestBuilds(t *testing.T) {
	calls := []func(v *view.View){
		func(v *view.View) { v.Cluster(1, 0) },
		func(v *view.View) { v.Clusters(0) },
		func(v *view.View) { v.Minimax(1, 2) },
		func(v *view.View) { v.Minimax(3, 3) },
		func(v *view.View) { v.Merges() },
		func(v *view.View) { v.Histogram(0, nil) },
	}
	others := func(v *view.View) {
		v.Graph()
		v.Cluster(9, 0)
		v.Minimax(1, 9)
		v.Minimax(9, 1)
		v.Levels()
		v.Random([]uint64{1, 2})
		v.Random(nil)
		v.Histogram(0, []int64{1, 1})
		v.Bridges()
		v.Cores()
	}
	for i, call := range calls {
		w, v := made(t, config(10, 5, 5, 5), example()...)
		others(v)
		builds(t, v, 0)
		call(v)
		builds(t, v, 1)
		call(v)
		others(v)
		calls[(i+1)%len(calls)](v)
		tick(t, w, 9)
		call(v)
		builds(t, v, 1)
		add(t, w, 1, 3, 4, 9)
		others(v)
		builds(t, v, 1)
		call(v)
		builds(t, v, 2)
		tick(t, w, 10)
		others(v)
		call(v)
		call(v)
		builds(t, v, 3)
		tick(t, w, 14)
		add(t, w, 1, 2, 4, 14)
		call(v)
		builds(t, v, 4)
	}
}

// P38.8: the first version is 0, and a dendrogram of it is built, too.
func TestFirstVersion(t *testing.T) {
	w, v := made(t, config(10, 5, 5, 5))
	tick(t, w, 5)
	merges(t, v, nil)
	merges(t, v, nil)
	builds(t, v, 1)
	add(t, w, 1, 2, 3, 5)
	merges(t, v, [][2]uint64{{1, 2}}, 3)
	builds(t, v, 2)
}

// P38.2, P38.3: ids that are no vertices.
func TestNoVertices(t *testing.T) {
	w, v := made(t, config(10, 5, 5, 5), example()...)
	for _, id := range []uint64{0, 4, math.MaxUint64} {
		one(t, v, id, most, view.Group{}, api.ErrVert)
		minimax(t, v, id, 1, 0, false, api.ErrVert)
		minimax(t, v, 1, id, 0, false, api.ErrVert)
		minimax(t, v, id, id, 0, false, api.ErrVert)
	}
	builds(t, v, 0)
	add(t, w, math.MaxUint64, 0, 3, 7)
	minimax(t, v, 0, math.MaxUint64, 3, true, api.OK)
	minimax(t, v, 0, 1, 0, false, api.OK)
	one(t, v, math.MaxUint64, 3, view.Group{Least: 0, Size: 2}, api.OK)
	tick(t, w, 16)
	minimax(t, v, 1, 2, 0, false, api.ErrVert)
}

// P38.5: the numbers of draws that are accepted.
func TestDraws(t *testing.T) {
	for _, draws := range []int{0, 1, 2, 3, 7} {
		_, v := made(t, config(10, 5, 5, draws), example()...)
		for n := range 10 {
			rows, e := v.Random(make([]uint64, n))
			if n < 2 || n > draws {
				if len(rows) != 0 || e != api.ErrDraws {
					t.Errorf("%d draws of at most %d: %v, error %d", n, draws, rows, e)
				}
			} else if len(rows) != 4 || e != api.OK {
				t.Errorf("%d draws of at most %d: %v, error %d", n, draws, rows, e)
			}
		}
	}
}

// P38.6: bounds that are not valid.
func TestBounds(t *testing.T) {
	_, v := made(t, config(10, 5, 5, 5), example()...)
	for _, bounds := range [][]int64{{1, 1}, {2, 1}, {most, least}, make([]int64, 1025)} {
		histogram(t, v, 5, bounds, api.ErrArg)
	}
	builds(t, v, 0)
	histogram(t, v, 5, nil, api.OK, 2)
	histogram(t, v, 4, []int64{0, 1, 2}, api.OK, 0, 0, 3, 0)
	histogram(t, v, 5, []int64{least, 2, 3, most}, api.OK, 0, 1, 1, 0, 0)
	histogram(t, v, 7, []int64{3}, api.OK, 0, 1)
}

// P38.2 to P38.5: thresholds and weights at the ends of the range.
func TestEnds(t *testing.T) {
	_, v := made(t, config(10, 5, 5, 5), api.Rec{U: 7, V: 3, W: most}, api.Rec{U: 3, V: 5, W: least})
	minimax(t, v, 7, 5, most, true, api.OK)
	minimax(t, v, 3, 5, least, true, api.OK)
	one(t, v, 5, least, view.Group{Least: 3, Size: 2}, api.OK)
	one(t, v, 7, most-1, view.Group{Least: 7, Size: 1}, api.OK)
	clusters(t, v, most, view.Group{Least: 3, Size: 3})
	merges(t, v, [][2]uint64{{3, 5}, {3, 7}}, least, most)
	levels(t, v, api.Level{Theta: least, Row: api.Row{Largest: 2, Count: 2, Squares: 5}}, api.Level{Theta: most, Row: api.Row{Largest: 3, Count: 1, Squares: 9}})
}

// P38.1 to P38.8: a window at its limits.
func TestFull(t *testing.T) {
	w, v := made(t, config(1<<20, api.MaxEdges, api.MaxVerts, api.MaxDraws))
	for i := range api.MaxEdges {
		add(t, w, uint64(i%api.MaxVerts), uint64((i+1)%api.MaxVerts), int64(i), int64(i))
	}
	clusters(t, v, most, view.Group{Least: 0, Size: api.MaxVerts})
	minimax(t, v, 0, api.MaxVerts-1, api.MaxVerts-2, true, api.OK)
	bridges(t, v)
	if l := v.Levels(); len(l) != api.MaxEdges || l[api.MaxVerts-2].Row != (api.Row{Largest: api.MaxVerts, Count: 1, Squares: api.MaxVerts * api.MaxVerts}) {
		t.Errorf("%d levels", len(l))
	}
	if rows, e := v.Random(make([]uint64, api.MaxDraws)); len(rows) != api.MaxEdges+1 || e != api.OK {
		t.Errorf("%d rows, error %d", len(rows), e)
	}
	if _, numbers := v.Cores(); slices.Min(numbers) != 8 {
		t.Errorf("core numbers from %d on", slices.Min(numbers))
	}
	builds(t, v, 1)
}

// R4
func TestMemory(t *testing.T) {
	_, v := made(t, config(10, 5, 5, 5), example()...)
	clusters(t, v, 5, view.Group{Least: 1, Size: 2}, view.Group{Least: 3, Size: 1})
	ids, edges := v.Graph()
	clear(ids)
	clear(edges)
	clear(v.Clusters(5))
	pairs, heights := v.Merges()
	clear(pairs)
	clear(heights)
	names, numbers := v.Cores()
	clear(names)
	clear(numbers)
	draws, bounds := []uint64{2, 0, 9}, []int64{2, 1}
	random(t, v, draws[:2], api.OK, api.Row{Largest: 1, Count: 3, Squares: 3}, api.Row{Largest: 2, Count: 2, Squares: 5}, api.Row{Largest: 3, Count: 1, Squares: 9}, api.Row{Largest: 3, Count: 1, Squares: 9})
	histogram(t, v, 5, bounds[:1], api.OK, 1, 1)
	clusters(t, v, 5, view.Group{Least: 1, Size: 2}, view.Group{Least: 3, Size: 1})
	merges(t, v, [][2]uint64{{1, 2}, {1, 3}}, 5, 7)
	cores(t, v, []uint64{1, 2, 3}, 2, 2, 2)
	if !slices.Equal(draws, []uint64{2, 0, 9}) || !slices.Equal(bounds, []int64{2, 1}) {
		t.Errorf("%v, %v", draws, bounds)
	}
}

// R2
func TestNotValid(t *testing.T) {
	for _, w := range []*window.Window{nil, {}} {
		if v, e := view.New(w); v != nil || e != api.ErrNil {
			t.Errorf("New = %v, error %d", v, e)
		}
	}
	for _, v := range []*view.View{nil, {}} {
		graph(t, v, nil)
		one(t, v, 1, 1, view.Group{}, api.ErrNil)
		clusters(t, v, most)
		minimax(t, v, 1, 1, 0, false, api.ErrNil)
		merges(t, v, nil)
		levels(t, v)
		random(t, v, nil, api.ErrNil)
		random(t, v, make([]uint64, 9), api.ErrNil)
		histogram(t, v, 1, nil, api.ErrNil)
		histogram(t, v, 1, []int64{1, 1}, api.ErrNil)
		bridges(t, v)
		cores(t, v, nil)
		builds(t, v, 0)
	}
}
