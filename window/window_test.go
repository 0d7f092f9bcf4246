package window_test

import (
	"math"
	"slices"
	"testing"

	"seepage/api"
	"seepage/window"
)

const (
	least = math.MinInt64
	most  = math.MaxInt64
)

func config(length int64, edges, verts, draws int) api.Config {
	return api.Config{Window: length, Edges: edges, Verts: verts, Draws: draws}
}

func rec(u, v uint64, w, at int64) api.Rec {
	return api.Rec{U: u, V: v, W: w, T: at}
}

func made(t *testing.T, c api.Config) *window.Window {
	t.Helper()
	w, e := window.New(c)
	if w == nil || e != api.OK {
		t.Fatalf("New(%v) = %v, error %d", c, w, e)
	}
	return w
}

func restored(t *testing.T, c api.Config, now int64, expired uint64, l ...api.Rec) *window.Window {
	t.Helper()
	w, e := window.Restore(c, now, expired, l)
	if w == nil || e != api.OK {
		t.Fatalf("Restore(%v, %d, %d, %v) = %v, error %d", c, now, expired, l, w, e)
	}
	return w
}

func refused(t *testing.T, c api.Config, now int64, expired uint64, l ...api.Rec) {
	t.Helper()
	if w, e := window.Restore(c, now, expired, l); w != nil || e != api.ErrArg {
		t.Errorf("Restore(%v, %d, %d, %d records) = %v, error %d", c, now, expired, len(l), w, e)
	}
}

func add(t *testing.T, w *window.Window, r api.Rec, want api.Errno) {
	t.Helper()
	if e := w.Add(r); e != want {
		t.Errorf("Add(%v): error %d, expected %d", r, e, want)
	}
}

func tick(t *testing.T, w *window.Window, to int64, want api.Errno) {
	t.Helper()
	if e := w.Tick(to); e != want {
		t.Errorf("Tick(%d): error %d, expected %d", to, e, want)
	}
}

func connected(t *testing.T, w *window.Window, u, v uint64, want bool, we api.Errno) {
	t.Helper()
	if got, e := w.Connected(u, v); got != want || e != we {
		t.Errorf("Connected(%d, %d) = %t, error %d; expected %t, error %d", u, v, got, e, want, we)
	}
}

func size(t *testing.T, w *window.Window, u uint64, want int, we api.Errno) {
	t.Helper()
	if got, e := w.Size(u); got != want || e != we {
		t.Errorf("Size(%d) = %d, error %d; expected %d, error %d", u, got, e, want, we)
	}
}

func until(t *testing.T, w *window.Window, u, v uint64, want int64, wok bool, we api.Errno) {
	t.Helper()
	if got, ok, e := w.Until(u, v); got != want || ok != wok || e != we {
		t.Errorf("Until(%d, %d) = %d, %t, error %d; expected %d, %t, error %d", u, v, got, ok, e, want, wok, we)
	}
}

// counts expects these numbers of edges, vertices and components.
func counts(t *testing.T, w *window.Window, edges, verts, comps int) {
	t.Helper()
	if a, b, c := w.Count(); a != edges || b != verts || c != comps {
		t.Errorf("Count = %d, %d, %d; expected %d, %d, %d", a, b, c, edges, verts, comps)
	}
}

// shows expects this time, these numbers of edges added and expired, and these live
// records, whose sequence numbers follow one another.
func shows(t *testing.T, w *window.Window, now int64, added, expired uint64, l ...api.Rec) {
	t.Helper()
	a, x := w.Added()
	if w.Now() != now || a != added || x != expired || w.Version() != added+expired {
		t.Errorf("Now %d, Added %d, %d, Version %d; expected %d, %d, %d", w.Now(), a, x, w.Version(), now, added, expired)
	}
	live, c := w.Live(), w.Config()
	slots := map[int]bool{}
	ids := []uint64{}
	for i, edge := range live {
		slots[edge.Slot] = true
		want := api.Live{Slot: edge.Slot, Seq: expired + uint64(i) + 1, Exp: edge.Rec.T + c.Window}
		if i < len(l) {
			want.Rec = l[i]
		}
		if edge != want || edge.Slot < 0 || edge.Slot >= c.Edges {
			t.Errorf("Live has %v at %d, expected %v", edge, i, want)
		}
		ids = append(ids, edge.Rec.U, edge.Rec.V)
	}
	if len(live) != len(l) || len(slots) != len(l) || uint64(len(l)) != added-expired {
		t.Errorf("%d live edges with %d slots, expected %d", len(live), len(slots), len(l))
	}
	slices.Sort(ids)
	if ids = slices.Compact(ids); !slices.Equal(w.IDs(), ids) {
		t.Errorf("IDs = %v, expected %v", w.IDs(), ids)
	}
}

// P37.2 to P37.6: the chapter's examples.
func TestExamples(t *testing.T) {
	w := made(t, config(10, 3, 4, 0))
	add(t, w, rec(1, 2, 5, 0), api.OK)
	add(t, w, rec(2, 3, 7, 4), api.OK)
	add(t, w, rec(3, 3, 0, 4), api.ErrLoop)
	add(t, w, rec(1, 3, 9, 3), api.ErrTime)
	connected(t, w, 1, 3, true, api.OK)
	until(t, w, 1, 3, 10, true, api.OK)
	size(t, w, 3, 3, api.OK)
	until(t, w, 1, 9, 0, false, api.ErrVert)
	counts(t, w, 2, 3, 1)
	add(t, w, rec(1, 3, 9, 6), api.OK)
	until(t, w, 1, 3, 16, true, api.OK)
	add(t, w, rec(4, 5, 1, 9), api.ErrEdges)
	add(t, w, rec(4, 5, 1, 10), api.ErrVerts)
	shows(t, w, 6, 3, 0, rec(1, 2, 5, 0), rec(2, 3, 7, 4), rec(1, 3, 9, 6))
	add(t, w, rec(4, 2, 1, 10), api.OK)
	counts(t, w, 3, 4, 1)
	if w.Version() != 5 {
		t.Errorf("Version = %d", w.Version())
	}
	tick(t, w, 16, api.OK)
	shows(t, w, 16, 4, 3, rec(4, 2, 1, 10))
	if got := w.IDs(); !slices.Equal(got, []uint64{2, 4}) {
		t.Errorf("IDs = %v", got)
	}
	if got := w.Live()[0]; got.Seq != 4 || got.Exp != 20 {
		t.Errorf("%v", got)
	}
	connected(t, w, 1, 2, false, api.ErrVert)
}

// P37.1, P37.7: configurations that are not valid, and the limits.
func TestConfigurations(t *testing.T) {
	for _, c := range []api.Config{
		{}, config(0, 3, 4, 0), config(-1, 3, 4, 0), config(least, 3, 4, 0), config(10, 0, 4, 0), config(10, -1, 4, 0), config(10, api.MaxEdges+1, 4, 0),
		config(10, math.MaxInt, 4, 0), config(10, math.MinInt, 4, 0), config(10, 3, 1, 0), config(10, 3, 0, 0), config(10, 3, -1, 0), config(10, 3, api.MaxVerts+1, 0),
		config(10, 3, math.MaxInt, 0), config(10, 3, math.MinInt, 0), config(10, 3, 4, -1), config(10, 3, 4, api.MaxDraws+1), config(10, 3, 4, math.MaxInt), config(10, 3, 4, math.MinInt),
	} {
		if w, e := window.New(c); w != nil || e != api.ErrArg {
			t.Errorf("New(%v) = %v, error %d", c, w, e)
		}
		refused(t, c, 0, 0)
	}
	for _, c := range []api.Config{config(1, 1, 2, 0), config(most, api.MaxEdges, api.MaxVerts, api.MaxDraws), config(60, 1, api.MaxVerts, 5), config(7, api.MaxEdges, 2, 0)} {
		w := made(t, c)
		shows(t, w, 0, 0, 0)
		counts(t, w, 0, 0, 0)
		if w.Config() != c {
			t.Errorf("Config = %v, expected %v", w.Config(), c)
		}
		if w = restored(t, c, 0, 5); w.Config() != c {
			t.Errorf("Config = %v, expected %v", w.Config(), c)
		}
		shows(t, w, 0, 5, 5)
	}
}

// P37.2: the order of the errors, when several apply.
func TestAddErrors(t *testing.T) {
	w := made(t, config(10, 1, 2, 0))
	add(t, w, rec(1, 2, 0, 5), api.OK)
	for _, at := range []int64{least, -1, 4, 5, 20, most - 10, most - 9, most} {
		add(t, w, rec(3, 3, 0, at), api.ErrLoop)
	}
	add(t, w, rec(3, 4, 0, 4), api.ErrTime)
	add(t, w, rec(3, 4, 0, -1), api.ErrTime)
	add(t, w, rec(3, 4, 0, least), api.ErrTime)
	add(t, w, rec(3, 4, 0, most-9), api.ErrOver)
	add(t, w, rec(3, 4, 0, most), api.ErrOver)
	add(t, w, rec(3, 4, 0, 5), api.ErrEdges)
	add(t, w, rec(1, 2, 0, 14), api.ErrEdges)
	shows(t, w, 5, 1, 0, rec(1, 2, 0, 5))
	add(t, w, rec(1, 2, 0, 15), api.OK)
	shows(t, w, 15, 2, 1, rec(1, 2, 0, 15))
	add(t, w, rec(3, 4, 0, most-10), api.OK)
	shows(t, w, most-10, 3, 2, rec(3, 4, 0, most-10))
	w = made(t, config(10, 3, 2, 0))
	add(t, w, rec(1, 2, 0, 0), api.OK)
	add(t, w, rec(2, 1, 0, 5), api.OK)
	add(t, w, rec(2, 3, 0, 10), api.ErrVerts)
	add(t, w, rec(3, 4, 0, 14), api.ErrVerts)
	shows(t, w, 5, 2, 0, rec(1, 2, 0, 0), rec(2, 1, 0, 5))
	add(t, w, rec(3, 4, 0, 15), api.OK)
	shows(t, w, 15, 3, 2, rec(3, 4, 0, 15))
}

// P37.2: an edge is examined without the edges that are expired by its time,
// whichever error it has with them.
func TestExpiredRoom(t *testing.T) {
	w := made(t, config(10, 2, 3, 0))
	add(t, w, rec(1, 2, 0, 0), api.OK)
	add(t, w, rec(2, 3, 0, 2), api.OK)
	add(t, w, rec(4, 5, 0, 9), api.ErrEdges)
	add(t, w, rec(4, 5, 0, 11), api.ErrVerts)
	add(t, w, rec(2, 5, 0, 11), api.OK)
	shows(t, w, 11, 3, 1, rec(2, 3, 0, 2), rec(2, 5, 0, 11))
	counts(t, w, 2, 3, 1)
	connected(t, w, 3, 5, true, api.OK)
	until(t, w, 3, 5, 12, true, api.OK)
}

// P37.3
func TestTick(t *testing.T) {
	w := made(t, config(10, 3, 4, 0))
	add(t, w, rec(1, 2, 0, 3), api.OK)
	tick(t, w, 2, api.ErrTime)
	tick(t, w, least, api.ErrTime)
	tick(t, w, most-9, api.ErrOver)
	tick(t, w, most, api.ErrOver)
	tick(t, w, 3, api.OK)
	tick(t, w, 12, api.OK)
	shows(t, w, 12, 1, 0, rec(1, 2, 0, 3))
	tick(t, w, 13, api.OK)
	shows(t, w, 13, 1, 1)
	counts(t, w, 0, 0, 0)
	size(t, w, 1, 0, api.ErrVert)
	tick(t, w, most-10, api.OK)
	tick(t, w, most-11, api.ErrTime)
	shows(t, w, most-10, 1, 1)
	w = made(t, config(most, 3, 4, 0))
	tick(t, w, 1, api.ErrOver)
	add(t, w, rec(1, 2, 0, 1), api.ErrOver)
	add(t, w, rec(1, 2, 0, 0), api.OK)
	until(t, w, 1, 2, most, true, api.OK)
}

// P37.5, P37.6
func TestConnection(t *testing.T) {
	w := made(t, config(100, 10, 10, 0))
	add(t, w, rec(7, 0, 0, 0), api.OK)
	add(t, w, rec(0, math.MaxUint64, 0, 10), api.OK)
	add(t, w, rec(5, 6, 0, 20), api.OK)
	connected(t, w, 7, math.MaxUint64, true, api.OK)
	connected(t, w, 7, 5, false, api.OK)
	connected(t, w, 7, 7, true, api.OK)
	until(t, w, 7, math.MaxUint64, 100, true, api.OK)
	until(t, w, 7, 7, 0, false, api.OK)
	until(t, w, 7, 5, 0, false, api.OK)
	counts(t, w, 3, 5, 2)
	size(t, w, 0, 3, api.OK)
	size(t, w, 6, 2, api.OK)
	for _, id := range []uint64{1, 8, math.MaxUint64 - 1} {
		connected(t, w, id, 7, false, api.ErrVert)
		connected(t, w, 7, id, false, api.ErrVert)
		connected(t, w, id, id, false, api.ErrVert)
		until(t, w, id, 7, 0, false, api.ErrVert)
		until(t, w, 7, id, 0, false, api.ErrVert)
		until(t, w, id, id, 0, false, api.ErrVert)
		size(t, w, id, 0, api.ErrVert)
	}
}

// P37.7: arguments that are not possible, one of each kind.
func TestRestoreErrors(t *testing.T) {
	c := config(10, 3, 4, 0)
	refused(t, c, -1, 0)
	refused(t, c, least, 0)
	refused(t, c, most-9, 0)
	refused(t, c, most, 0)
	refused(t, c, 20, 0, rec(1, 1, 0, 20))
	refused(t, c, 20, 0, rec(1, 2, 0, 20), rec(4, 4, 0, 20))
	refused(t, c, 5, 0, rec(1, 2, 0, -1))
	refused(t, c, 5, 0, rec(1, 2, 0, least))
	refused(t, c, 20, 0, rec(1, 2, 0, 15), rec(1, 2, 0, 14))
	refused(t, c, 20, 0, rec(1, 2, 0, 21))
	refused(t, c, 20, 0, rec(1, 2, 0, most))
	refused(t, c, 20, 0, rec(1, 2, 0, 10))
	refused(t, c, 20, 0, rec(1, 2, 0, 0))
	refused(t, c, 20, 0, rec(1, 2, 0, 12), rec(1, 2, 0, 12), rec(1, 2, 0, 12), rec(1, 2, 0, 12))
	refused(t, c, 20, 0, rec(1, 2, 0, 12), rec(2, 3, 0, 12), rec(4, 5, 0, 12))
	refused(t, c, 20, most, rec(1, 2, 0, 12))
	refused(t, c, 20, most-1, rec(1, 2, 0, 12), rec(1, 2, 0, 12))
	refused(t, c, 20, most+1)
	refused(t, c, 20, math.MaxUint64)
	refused(t, c, 20, math.MaxUint64, rec(1, 2, 0, 12))
	shows(t, restored(t, c, most-10, 0), most-10, 0, 0)
	shows(t, restored(t, c, 20, most), 20, most, most)
	shows(t, restored(t, c, 9, 3, rec(1, 2, 0, 0)), 9, 4, 3, rec(1, 2, 0, 0))
	shows(t, restored(t, c, 20, 0, rec(1, 2, 0, 11), rec(3, 4, 0, 11), rec(1, 2, 0, 20)), 20, 3, 0, rec(1, 2, 0, 11), rec(3, 4, 0, 11), rec(1, 2, 0, 20))
}

// P37.2, P37.7: as many edges as can be added.
func TestMostAdded(t *testing.T) {
	c := config(10, 3, 4, 0)
	w := restored(t, c, 5, most-2, rec(1, 2, 7, 3))
	add(t, w, rec(2, 3, 8, 6), api.OK)
	shows(t, w, 6, most, most-2, rec(1, 2, 7, 3), rec(2, 3, 8, 6))
	add(t, w, rec(2, 3, 8, 7), api.ErrOver)
	add(t, w, rec(2, 3, 8, 5), api.ErrTime)
	add(t, w, rec(2, 2, 8, 7), api.ErrLoop)
	tick(t, w, 16, api.OK)
	shows(t, w, 16, most, most)
	add(t, w, rec(2, 3, 8, 16), api.ErrOver)
	if w.Version() != math.MaxUint64-1 {
		t.Errorf("Version = %d", w.Version())
	}
	w = restored(t, config(10, 1, 2, 0), 5, most-1, rec(1, 2, 7, 3))
	add(t, w, rec(1, 2, 8, 6), api.ErrOver)
}

// P37.2, P37.10: a window at its limits.
func TestFull(t *testing.T) {
	w := made(t, config(1<<20, api.MaxEdges, api.MaxVerts, 0))
	for i := range api.MaxEdges {
		add(t, w, rec(uint64(i%api.MaxVerts), uint64((i+1)%api.MaxVerts), 0, int64(i)), api.OK)
	}
	counts(t, w, api.MaxEdges, api.MaxVerts, 1)
	until(t, w, 0, 1, 1<<20+api.MaxEdges-api.MaxVerts+1, true, api.OK)
	add(t, w, rec(1, 2, 0, 1<<20-1), api.ErrEdges)
	add(t, w, rec(1, 1<<40, 0, 1<<20), api.ErrVerts)
	add(t, w, rec(1, 3, 0, 1<<20), api.OK)
	counts(t, w, api.MaxEdges, api.MaxVerts, 1)
	tick(t, w, 1<<20+api.MaxEdges-1, api.OK)
	shows(t, w, 1<<20+api.MaxEdges-1, api.MaxEdges+1, api.MaxEdges, rec(1, 3, 0, 1<<20))
}

// P37.4, R8
func TestCopy(t *testing.T) {
	a := made(t, config(10, 3, 4, 9))
	add(t, a, rec(1, 2, 5, 0), api.OK)
	add(t, a, rec(2, 3, 5, 4), api.OK)
	b := a.Copy()
	add(t, a, rec(1, 3, 5, 6), api.OK)
	tick(t, b, 12, api.OK)
	add(t, b, rec(8, 9, 5, 13), api.OK)
	shows(t, a, 6, 3, 0, rec(1, 2, 5, 0), rec(2, 3, 5, 4), rec(1, 3, 5, 6))
	shows(t, b, 13, 3, 1, rec(2, 3, 5, 4), rec(8, 9, 5, 13))
	until(t, a, 1, 3, 16, true, api.OK)
	connected(t, b, 1, 3, false, api.ErrVert)
	counts(t, b, 2, 4, 2)
	if b.Config() != config(10, 3, 4, 9) {
		t.Errorf("Config = %v", b.Config())
	}
}

// R4
func TestMemory(t *testing.T) {
	l := []api.Rec{rec(1, 2, 5, 0), rec(2, 3, 5, 4), rec(7, 7, 7, 7)}
	w := restored(t, config(10, 3, 4, 0), 5, 0, l[:2]...)
	clear(w.Live())
	clear(w.IDs())
	if l[0] != rec(1, 2, 5, 0) || l[2] != rec(7, 7, 7, 7) {
		t.Errorf("%v", l)
	}
	l[0] = rec(9, 8, 0, 0)
	shows(t, w, 5, 2, 0, rec(1, 2, 5, 0), rec(2, 3, 5, 4))
}

// R2
func TestNotValid(t *testing.T) {
	for _, w := range []*window.Window{nil, {}} {
		add(t, w, rec(1, 1, 0, -1), api.ErrNil)
		add(t, w, rec(1, 2, 0, 0), api.ErrNil)
		tick(t, w, -1, api.ErrNil)
		tick(t, w, 0, api.ErrNil)
		connected(t, w, 1, 1, false, api.ErrNil)
		size(t, w, 1, 0, api.ErrNil)
		until(t, w, 1, 2, 0, false, api.ErrNil)
		counts(t, w, 0, 0, 0)
		shows(t, w, 0, 0, 0)
		if w.Config() != (api.Config{}) || w.Copy() != nil {
			t.Errorf("Config %v, Copy %v", w.Config(), w.Copy())
		}
	}
}
