package judge_test

import (
	"math"
	"slices"
	"testing"

	"seepage/api"
	"seepage/engine"
	"seepage/judge"
	"seepage/reply"
)

const (
	least = math.MinInt64
	most  = math.MaxInt64
)

func config(length int64, edges, verts, draws int) api.Config {
	return api.Config{Window: length, Edges: edges, Verts: verts, Draws: draws}
}

func made(t *testing.T, c api.Config) *judge.Model {
	t.Helper()
	m, e := judge.New(c)
	if m == nil || e != api.OK {
		t.Fatalf("New(%v) = %v, error %d", c, m, e)
	}
	return m
}

func add(u, v uint64, w, at int64) api.Cmd {
	return api.Cmd{Op: api.OpAdd, U: u, V: v, W: w, T: at}
}

func tick(at int64) api.Cmd {
	return api.Cmd{Op: api.OpTick, T: at}
}

func ids(l ...uint64) []uint64 {
	return l
}

// do expects a reply, whose Op is that of the command.
func do(t *testing.T, m *judge.Model, c api.Cmd, want api.Reply) {
	t.Helper()
	want.Op = c.Op
	if got := m.Do(c); !reply.Same(got, want) {
		t.Errorf("Do(%v) = %v, expected %v", c, got, want)
	}
}

// nums expects a reply without an error that has these Nums alone.
func nums(t *testing.T, m *judge.Model, c api.Cmd, want ...int64) {
	t.Helper()
	do(t, m, c, api.Reply{Nums: want})
}

// fails expects a reply with an error.
func fails(t *testing.T, m *judge.Model, c api.Cmd, want api.Errno) {
	t.Helper()
	do(t, m, c, api.Reply{Err: want})
}

func agrees(t *testing.T, c api.Config, l []api.Cmd, want int, we api.Errno) {
	t.Helper()
	if got, e := judge.Agrees(c, l); got != want || e != we {
		t.Errorf("Agrees(%v, %d commands) = %d, error %d; expected %d, error %d", c, len(l), got, e, want, we)
	}
}

// live returns a live edge.
func live(slot int, seq, u, v uint64, at, exp int64) api.Live {
	return api.Live{Slot: slot, Seq: seq, Rec: api.Rec{U: u, V: v, W: 7, T: at}, Exp: exp}
}

// look expects these flaws, as pairs of a kind and a place.
func look(t *testing.T, c api.Config, now int64, l []api.Live, want ...int) {
	t.Helper()
	var flaws []api.Flaw
	for i := 0; i < len(want); i += 2 {
		flaws = append(flaws, api.Flaw{Kind: want[i], At: want[i+1]})
	}
	if got := judge.Look(c, now, l); !slices.Equal(got, flaws) {
		t.Errorf("Look(%v, %d, %v) = %v, expected %v", c, now, l, got, flaws)
	}
}

// P46.2, P46.3: the chapter's examples.
func TestExamples(t *testing.T) {
	c := config(10, 4, 4, 0)
	look(t, c, 10, []api.Live{live(0, 1, 1, 2, 0, 10), live(0, 2, 2, 2, 4, 15)}, 2, 0, 1, 1, 5, 1)
	look(t, c, 10, nil)
	agrees(t, c, []api.Cmd{add(1, 2, 5, 0), {Op: api.OpConnected, U: 1, V: 2}, tick(10), {Op: api.OpConnected, U: 1, V: 2}}, -1, api.OK)
}

// P46.1, P46.2: configurations that are not valid.
func TestNew(t *testing.T) {
	for _, c := range []api.Config{{}, config(0, 2, 3, 0), config(10, 0, 3, 0), config(10, 2, 1, 0), config(10, 2, 3, -1), config(10, api.MaxEdges+1, 3, 0)} {
		if m, e := judge.New(c); m != nil || e != api.ErrArg {
			t.Errorf("New(%v) = %v, error %d", c, m, e)
		}
		agrees(t, c, nil, 0, api.ErrArg)
		agrees(t, c, []api.Cmd{tick(1)}, 0, api.ErrArg)
	}
	agrees(t, config(1, 1, 2, 0), nil, -1, api.OK)
}

// P46.1: each kind of commands, on a window with two components.
func TestKinds(t *testing.T) {
	m := made(t, config(10, 8, 8, 8))
	nums(t, m, add(5, 1, 3, 0), 1)
	nums(t, m, add(1, 9, -4, 1), 2)
	nums(t, m, add(9, 5, 8, 1), 3)
	nums(t, m, add(2, 7, 0, 2), 4)
	nums(t, m, api.Cmd{Op: api.OpSize, U: 9}, 3)
	nums(t, m, api.Cmd{Op: api.OpCount}, 4, 5, 2)
	do(t, m, api.Cmd{Op: api.OpConnected, U: 1, V: 5}, api.Reply{Yes: true})
	do(t, m, api.Cmd{Op: api.OpConnected, U: 1, V: 2}, api.Reply{})
	do(t, m, api.Cmd{Op: api.OpCluster, U: 9, W: -4}, api.Reply{IDs: ids(1), Nums: []int64{2}})
	do(t, m, api.Cmd{Op: api.OpClusters, W: 2}, api.Reply{IDs: ids(1, 2, 5), Nums: []int64{2, 2, 1}})
	do(t, m, api.Cmd{Op: api.OpMinimax, U: 9, V: 5}, api.Reply{Yes: true, Nums: []int64{3}})
	do(t, m, api.Cmd{Op: api.OpMinimax, U: 9, V: 2}, api.Reply{})
	do(t, m, api.Cmd{Op: api.OpMinimax, U: 7, V: 7}, api.Reply{Yes: true, Nums: []int64{least}})
	do(t, m, api.Cmd{Op: api.OpMerges}, api.Reply{IDs: ids(1, 9, 2, 7, 1, 5), Nums: []int64{-4, 0, 3}})
	nums(t, m, api.Cmd{Op: api.OpSweep}, -4, 2, 4, 7, 0, 2, 3, 9, 3, 3, 2, 13, 8, 3, 2, 13)
	nums(t, m, api.Cmd{Op: api.OpRandom, Draws: ids(3, 1, 0)}, 1, 5, 5, 2, 4, 7, 2, 3, 9, 3, 2, 13, 3, 2, 13)
	nums(t, m, api.Cmd{Op: api.OpHisto, W: 2, Bounds: []int64{2, 3}}, 1, 2, 0)
	do(t, m, api.Cmd{Op: api.OpBridges}, api.Reply{IDs: ids(4)})
	do(t, m, api.Cmd{Op: api.OpCores}, api.Reply{IDs: ids(1, 2, 5, 7, 9), Nums: []int64{2, 1, 2, 1, 2}})
	nums(t, m, api.Cmd{Op: api.OpStats}, 2, 4, 4, 0, 1)
	nums(t, m, tick(10), 1)
	do(t, m, api.Cmd{Op: api.OpBridges}, api.Reply{IDs: ids(2, 3, 4)})
	nums(t, m, tick(11), 2)
	nums(t, m, tick(11), 0)
	nums(t, m, api.Cmd{Op: api.OpStats}, 11, 7, 4, 3, 1)
	do(t, m, api.Cmd{Op: api.OpMerges}, api.Reply{IDs: ids(2, 7), Nums: []int64{0}})
	nums(t, m, api.Cmd{Op: api.OpStats}, 11, 7, 4, 3, 2)
}

// P46.1: parallel edges with equal weights, and a window without edges.
func TestParallel(t *testing.T) {
	m := made(t, config(10, 4, 4, 4))
	for _, op := range []api.Op{api.OpSweep, api.OpBridges, api.OpCores} {
		nums(t, m, api.Cmd{Op: op})
	}
	nums(t, m, api.Cmd{Op: api.OpCount}, 0, 0, 0)
	nums(t, m, api.Cmd{Op: api.OpRandom}, 0, 0, 0)
	nums(t, m, api.Cmd{Op: api.OpStats}, 0, 0, 0, 0, 0)
	for _, op := range []api.Op{api.OpClusters, api.OpMerges} {
		nums(t, m, api.Cmd{Op: op})
	}
	nums(t, m, api.Cmd{Op: api.OpHisto}, 0)
	nums(t, m, api.Cmd{Op: api.OpStats}, 0, 0, 0, 0, 1)
	nums(t, m, add(3, 1, 5, 0), 1)
	nums(t, m, add(1, 3, 5, 0), 2)
	nums(t, m, add(2, 3, 5, 0), 3)
	do(t, m, api.Cmd{Op: api.OpBridges}, api.Reply{IDs: ids(3)})
	do(t, m, api.Cmd{Op: api.OpCores}, api.Reply{IDs: ids(1, 2, 3), Nums: []int64{2, 1, 2}})
	nums(t, m, api.Cmd{Op: api.OpSweep}, 5, 3, 1, 9)
	do(t, m, api.Cmd{Op: api.OpMerges}, api.Reply{IDs: ids(1, 3, 1, 2), Nums: []int64{5, 5}})
}

// P46.1: commands whose reply has an error.
func TestErrors(t *testing.T) {
	m := made(t, config(10, 2, 3, 1))
	nums(t, m, add(1, 2, 5, 3), 1)
	for _, b := range []struct {
		c    api.Cmd
		want api.Errno
	}{
		{add(1, 1, 0, 0), api.ErrLoop}, {add(1, 1, 0, most), api.ErrLoop}, {add(1, 2, 0, 2), api.ErrTime}, {add(1, 2, 0, least), api.ErrTime}, {add(1, 2, 0, most), api.ErrOver},
		{add(1, 2, 0, most-9), api.ErrOver}, {add(3, 4, 0, 5), api.ErrVerts}, {add(3, 4, 0, 12), api.ErrVerts}, {tick(2), api.ErrTime}, {tick(most), api.ErrOver}, {tick(most - 9), api.ErrOver},
		{api.Cmd{Op: api.OpConnected, U: 1, V: 3}, api.ErrVert}, {api.Cmd{Op: api.OpConnected, U: 3, V: 1}, api.ErrVert}, {api.Cmd{Op: api.OpSize, U: 3}, api.ErrVert},
		{api.Cmd{Op: api.OpCluster, U: 3, W: 9}, api.ErrVert}, {api.Cmd{Op: api.OpMinimax, U: 3, V: 1}, api.ErrVert}, {api.Cmd{Op: api.OpMinimax, U: 3, V: 3}, api.ErrVert},
		{api.Cmd{Op: api.OpRandom, Draws: ids(1, 2)}, api.ErrDraws}, {api.Cmd{Op: api.OpHisto, Bounds: []int64{2, 2}}, api.ErrArg}, {api.Cmd{Op: api.OpHisto, Bounds: []int64{0, 2, 1}}, api.ErrArg},
		{api.Cmd{}, api.ErrArg}, {api.Cmd{Op: -1}, api.ErrArg}, {api.Cmd{Op: 16}, api.ErrArg}, {api.Cmd{Op: api.OpTick, T: 5, U: 1}, api.ErrArg},
		{api.Cmd{Op: api.OpRandom, Draws: make([]uint64, api.MaxDraws+1)}, api.ErrArg}, {api.Cmd{Op: api.OpHisto, Bounds: make([]int64, 1025)}, api.ErrArg},
	} {
		fails(t, m, b.c, b.want)
		nums(t, m, api.Cmd{Op: api.OpStats}, 3, 1, 1, 0, 0)
	}
	nums(t, m, add(2, 3, 0, 5), 2)
	fails(t, m, add(1, 2, 0, 5), api.ErrEdges)
	fails(t, m, add(4, 5, 0, 5), api.ErrEdges)
	fails(t, m, add(4, 5, 0, 13), api.ErrVerts)
	nums(t, m, api.Cmd{Op: api.OpRandom, Draws: ids(4)}, 1, 3, 3, 2, 2, 5, 3, 1, 9)
	fails(t, m, api.Cmd{Op: api.OpRandom}, api.ErrDraws)
	nums(t, m, add(4, 2, 0, 13), 3)
	nums(t, m, add(4, 5, 0, 15), 4)
	nums(t, m, api.Cmd{Op: api.OpStats}, 15, 6, 4, 2, 0)
	nums(t, m, tick(most-10), 2)
}

// P46.3: each reason of each kind of flaws.
func TestLook(t *testing.T) {
	c := config(10, 3, 4, 0)
	good := func() []api.Live {
		return []api.Live{live(2, 5, 1, 2, 3, 13), live(0, 6, 2, 3, 3, 13), live(1, 9, 1, 4, 8, 18)}
	}
	look(t, c, 8, good())
	look(t, c, 12, good())
	look(t, c, 13, good(), 2, 0, 2, 1)
	look(t, c, 18, good(), 2, 0, 2, 1, 2, 2)
	look(t, c, 7, good(), 5, 2)
	look(t, c, 2, good(), 5, 0, 5, 1, 5, 2)
	for i, change := range []struct {
		f    func(l []api.Live)
		want []int
	}{
		{func(l []api.Live) { l[1].Rec.V = 2 }, []int{1, 1}},
		{func(l []api.Live) { l[0].Slot = -1 }, []int{1, 0}},
		{func(l []api.Live) { l[0].Slot = 3 }, []int{1, 0}},
		{func(l []api.Live) { l[0].Slot = 1 }, []int{1, 2}},
		{func(l []api.Live) { l[1].Slot = 2 }, []int{1, 1}},
		{func(l []api.Live) { l[1].Seq = 5 }, []int{1, 1}},
		{func(l []api.Live) { l[1].Seq = 4 }, []int{1, 1}},
		{func(l []api.Live) { l[1].Seq = 9 }, []int{1, 2}},
		{func(l []api.Live) { l[0].Seq = 0 }, nil},
		{func(l []api.Live) { l[2].Seq = math.MaxUint64 }, nil},
		{func(l []api.Live) { l[2].Rec.U = 5 }, []int{1, 2}},
		{func(l []api.Live) { l[1].Rec.U, l[1].Rec.V, l[2].Rec.V = 5, 6, 2 }, nil},
		{func(l []api.Live) { l[1].Rec.U, l[1].Rec.V, l[2].Rec.V = 5, 6, 7 }, []int{1, 2}},
		{func(l []api.Live) { l[0].Exp = 8 }, []int{2, 0, 5, 0}},
		{func(l []api.Live) { l[0].Exp = 12 }, []int{5, 0}},
		{func(l []api.Live) { l[0].Exp = 14 }, []int{5, 0}},
		{func(l []api.Live) { l[0].Rec.T, l[0].Exp = 4, 14 }, []int{5, 1}},
		{func(l []api.Live) { l[2].Rec.T, l[2].Exp = 9, 19 }, []int{5, 2}},
		{func(l []api.Live) { l[0].Rec.T, l[0].Exp = -5, 5 }, []int{2, 0}},
		{func(l []api.Live) { l[0].Slot, l[0].Exp = 7, 0 }, []int{1, 0, 2, 0, 5, 0}},
	} {
		l := good()
		change.f(l)
		look(t, c, 8, l, change.want...)
		if t.Failed() {
			t.Fatalf("change %d", i)
		}
	}
}

// P46.3: configurations that are not valid, and sums that do not fit.
func TestLookAtLimits(t *testing.T) {
	l := []api.Live{live(0, 1, 1, 2, 3, 13), live(1, 2, 2, 3, 3, 13), live(2, 3, 3, 4, 4, 14)}
	look(t, config(10, 2, 9, 0), 5, l, 1, 2)
	look(t, config(10, 1, 9, 0), 5, l, 1, 1, 1, 2)
	look(t, config(10, 0, 9, 0), 5, l, 1, 0, 1, 1, 1, 2)
	look(t, config(10, math.MinInt, 9, 0), 5, l, 1, 0, 1, 1, 1, 2)
	look(t, config(10, 9, 4, 0), 5, l)
	look(t, config(10, 9, 3, 0), 5, l, 1, 2)
	look(t, config(10, 9, 2, 0), 5, l, 1, 1)
	look(t, config(10, 9, 1, 0), 5, l, 1, 0)
	look(t, config(10, 9, 0, 0), 5, l, 1, 0)
	look(t, config(10, 9, -1, 0), 5, l)
	look(t, config(0, 9, 9, 0), 5, l, 5, 0, 5, 1, 5, 2)
	look(t, config(most, 9, 9, 0), 0, []api.Live{live(0, 1, 1, 2, 0, most)})
	look(t, config(most, 9, 9, 0), 3, []api.Live{live(0, 1, 1, 2, 1, least)}, 2, 0, 5, 0)
	look(t, config(most, 9, 9, 0), least, []api.Live{live(0, 1, 1, 2, least, -1)})
	look(t, config(least, 9, 9, 0), least, []api.Live{live(0, 1, 1, 2, least, 0)}, 5, 0)
	look(t, config(-1, 9, 9, 0), least, []api.Live{live(0, 1, 1, 2, least, most)}, 5, 0)
	look(t, config(-5, 9, 9, 0), 0, []api.Live{live(0, 1, 1, 2, 0, -5)}, 2, 0)
	look(t, config(least, 9, 9, 0), most, []api.Live{live(0, 1, 1, 2, most, -1)}, 2, 0)
}

// P46.4
func TestAudit(t *testing.T) {
	for _, e := range []*engine.Engine{nil, {}} {
		if l := judge.Audit(e); len(l) != 0 {
			t.Errorf("Audit = %v", l)
		}
	}
	e, _ := engine.New(config(10, 4, 5, 5))
	for _, c := range []api.Cmd{{Op: api.OpMerges}, add(1, 2, 3, 0), add(2, 3, 3, 1), add(1, 3, 3, 1), add(1, 2, 3, 5), add(7, 8, 3, 6), tick(10), add(7, 8, 3, 10), tick(11), tick(40)} {
		e.Do(c)
		cmds, errs := e.Done()
		if l := judge.Audit(e); len(l) != 0 {
			t.Errorf("Audit after %v: %v", c, l)
		}
		if a, b := e.Done(); a != cmds || b != errs {
			t.Errorf("Audit has changed the counts")
		}
	}
}

// R2, R4
func TestNotValid(t *testing.T) {
	for _, m := range []*judge.Model{nil, {}} {
		fails(t, m, tick(1), api.ErrNil)
		fails(t, m, api.Cmd{Op: 99}, api.ErrNil)
	}
	m := made(t, config(10, 4, 4, 4))
	nums(t, m, add(1, 2, 5, 0), 1)
	nums(t, m, add(2, 3, 7, 0), 2)
	for _, op := range []api.Op{api.OpClusters, api.OpMerges, api.OpSweep, api.OpBridges, api.OpCores, api.OpStats} {
		c := api.Cmd{Op: op}
		m.Do(c)
		want := m.Do(c)
		first := m.Do(c)
		clear(first.IDs)
		clear(first.Nums)
		do(t, m, c, want)
	}
	draws, bounds := ids(1, 2, 3), []int64{1, 2, 0}
	m.Do(api.Cmd{Op: api.OpRandom, Draws: draws[:2]})
	m.Do(api.Cmd{Op: api.OpHisto, Bounds: bounds[:2]})
	l := []api.Live{live(0, 1, 1, 2, 3, 13), live(0, 2, 2, 3, 3, 13), live(9, 9, 9, 9, 9, 9)}
	look(t, config(10, 4, 4, 0), 5, l[:2], 1, 1)
	if !slices.Equal(draws, ids(1, 2, 3)) || !slices.Equal(bounds, []int64{1, 2, 0}) || l[2] != live(9, 9, 9, 9, 9, 9) {
		t.Errorf("%v, %v, %v", draws, bounds, l)
	}
}
