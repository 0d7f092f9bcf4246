package engine_test

import (
	"bytes"
	"math"
	"slices"
	"testing"

	"seepage/api"
	"seepage/codec"
	"seepage/engine"
	"seepage/reply"
	"seepage/window"
)

const (
	least = math.MinInt64
	most  = math.MaxInt64
)

func config(length int64, edges, verts, draws int) api.Config {
	return api.Config{Window: length, Edges: edges, Verts: verts, Draws: draws}
}

func made(t *testing.T, c api.Config) *engine.Engine {
	t.Helper()
	e, err := engine.New(c)
	if e == nil || err != api.OK {
		t.Fatalf("New(%v) = %v, error %d", c, e, err)
	}
	return e
}

func add(u, v uint64, w, at int64) api.Cmd {
	return api.Cmd{Op: api.OpAdd, U: u, V: v, W: w, T: at}
}

func tick(at int64) api.Cmd {
	return api.Cmd{Op: api.OpTick, T: at}
}

func ids(l ...uint64) []uint64 {
	return l
}

// do expects a reply, whose Op is that of the command.
func do(t *testing.T, e *engine.Engine, c api.Cmd, want api.Reply) {
	t.Helper()
	want.Op = c.Op
	if got := e.Do(c); !reply.Same(got, want) {
		t.Errorf("Do(%v) = %v, expected %v", c, got, want)
	}
}

// nums expects a reply without an error that has these Nums alone.
func nums(t *testing.T, e *engine.Engine, c api.Cmd, want ...int64) {
	t.Helper()
	do(t, e, c, api.Reply{Nums: want})
}

// fails expects a reply with an error.
func fails(t *testing.T, e *engine.Engine, c api.Cmd, want api.Errno) {
	t.Helper()
	do(t, e, c, api.Reply{Err: want})
}

func counts(t *testing.T, e *engine.Engine, cmds, errs uint64, builds int) {
	t.Helper()
	if a, b := e.Done(); a != cmds || b != errs {
		t.Errorf("Done = %d, %d; expected %d, %d", a, b, cmds, errs)
	}
	if got := e.Builds(); got != builds {
		t.Errorf("Builds = %d, expected %d", got, builds)
	}
}

// run expects the replies of an engine to bytes.
func run(t *testing.T, c api.Config, b []byte, want ...api.Reply) {
	t.Helper()
	replies, err := engine.Run(c, b)
	if err != api.OK {
		t.Errorf("Run(%v): error %d", c, err)
	}
	if got, err := reply.GetAll(replies); !slices.EqualFunc(got, want, reply.Same) || err != api.OK {
		t.Errorf("Run(%v) = %v, error %d; expected %v", b, got, err, want)
	}
}

func frames(t *testing.T, l ...api.Cmd) []byte {
	t.Helper()
	b, err := codec.PutAll(l)
	if err != api.OK {
		t.Fatalf("PutAll: error %d", err)
	}
	return b
}

// P42.1 to P42.5: the chapter's examples.
func TestExamples(t *testing.T) {
	e := made(t, config(10, 4, 4, 4))
	counts(t, e, 0, 0, 0)
	nums(t, e, add(1, 2, 5, 0), 1)
	nums(t, e, add(2, 3, 7, 4), 2)
	do(t, e, api.Cmd{Op: api.OpConnected, U: 1, V: 3}, api.Reply{Yes: true})
	nums(t, e, tick(10), 1)
	fails(t, e, api.Cmd{Op: api.OpConnected, U: 1, V: 3}, api.ErrVert)
	do(t, e, api.Cmd{Op: api.OpMinimax, U: 2, V: 3}, api.Reply{Yes: true, Nums: []int64{7}})
	do(t, e, api.Cmd{Op: api.OpMerges}, api.Reply{IDs: ids(2, 3), Nums: []int64{7}})
	nums(t, e, api.Cmd{Op: api.OpSweep}, 7, 2, 1, 4)
	nums(t, e, api.Cmd{Op: api.OpStats}, 10, 3, 2, 1, 1)
	fails(t, e, api.Cmd{Op: 99}, api.ErrArg)
	counts(t, e, 10, 2, 1)
	run(t, config(10, 4, 4, 4), nil)
	run(t, config(10, 4, 4, 4), []byte{0}, api.Reply{Err: api.ErrForm})
}

// P42.2: each kind of commands, on a window with two components.
func TestKinds(t *testing.T) {
	e := made(t, config(10, 8, 8, 8))
	nums(t, e, add(5, 1, 3, 0), 1)
	nums(t, e, add(1, 9, -4, 1), 2)
	nums(t, e, add(9, 5, 8, 1), 3)
	nums(t, e, add(2, 7, 0, 2), 4)
	nums(t, e, api.Cmd{Op: api.OpSize, U: 9}, 3)
	nums(t, e, api.Cmd{Op: api.OpCount}, 4, 5, 2)
	do(t, e, api.Cmd{Op: api.OpConnected, U: 1, V: 2}, api.Reply{})
	do(t, e, api.Cmd{Op: api.OpCluster, U: 9, W: -4}, api.Reply{IDs: ids(1), Nums: []int64{2}})
	do(t, e, api.Cmd{Op: api.OpClusters, W: 2}, api.Reply{IDs: ids(1, 2, 5), Nums: []int64{2, 2, 1}})
	do(t, e, api.Cmd{Op: api.OpMinimax, U: 9, V: 5}, api.Reply{Yes: true, Nums: []int64{3}})
	do(t, e, api.Cmd{Op: api.OpMinimax, U: 9, V: 2}, api.Reply{})
	do(t, e, api.Cmd{Op: api.OpMinimax, U: 7, V: 7}, api.Reply{Yes: true, Nums: []int64{least}})
	do(t, e, api.Cmd{Op: api.OpMerges}, api.Reply{IDs: ids(1, 9, 2, 7, 1, 5), Nums: []int64{-4, 0, 3}})
	nums(t, e, api.Cmd{Op: api.OpSweep}, -4, 2, 4, 7, 0, 2, 3, 9, 3, 3, 2, 13, 8, 3, 2, 13)
	nums(t, e, api.Cmd{Op: api.OpRandom, Draws: ids(3, 1, 0)}, 1, 5, 5, 2, 4, 7, 2, 3, 9, 3, 2, 13, 3, 2, 13)
	nums(t, e, api.Cmd{Op: api.OpHisto, W: 2, Bounds: []int64{2, 3}}, 1, 2, 0)
	do(t, e, api.Cmd{Op: api.OpBridges}, api.Reply{IDs: ids(4)})
	do(t, e, api.Cmd{Op: api.OpCores}, api.Reply{IDs: ids(1, 2, 5, 7, 9), Nums: []int64{2, 1, 2, 1, 2}})
	nums(t, e, api.Cmd{Op: api.OpStats}, 2, 4, 4, 0, 1)
	nums(t, e, tick(11), 3)
	nums(t, e, tick(11), 0)
	nums(t, e, api.Cmd{Op: api.OpStats}, 11, 7, 4, 3, 1)
	counts(t, e, 22, 0, 1)
}

// P42.2: the replies to commands on a window without edges.
func TestEmpty(t *testing.T) {
	e := made(t, config(10, 8, 8, 8))
	for _, op := range []api.Op{api.OpClusters, api.OpMerges, api.OpSweep, api.OpBridges, api.OpCores} {
		nums(t, e, api.Cmd{Op: op})
	}
	nums(t, e, api.Cmd{Op: api.OpCount}, 0, 0, 0)
	nums(t, e, api.Cmd{Op: api.OpRandom}, 0, 0, 0)
	nums(t, e, api.Cmd{Op: api.OpHisto}, 0)
	nums(t, e, api.Cmd{Op: api.OpStats}, 0, 0, 0, 0, 1)
	for _, op := range []api.Op{api.OpConnected, api.OpSize, api.OpCluster, api.OpMinimax} {
		fails(t, e, api.Cmd{Op: op}, api.ErrVert)
	}
}

// P42.2: commands whose call returns an error, or that are not valid; they change
// nothing.
func TestErrors(t *testing.T) {
	e := made(t, config(10, 2, 3, 1))
	nums(t, e, add(1, 2, 5, 3), 1)
	bad := []struct {
		c    api.Cmd
		want api.Errno
	}{
		{add(1, 1, 0, 0), api.ErrLoop}, {add(1, 2, 0, 2), api.ErrTime}, {add(1, 2, 0, most), api.ErrOver}, {add(3, 4, 0, 5), api.ErrVerts}, {tick(2), api.ErrTime}, {tick(most), api.ErrOver},
		{api.Cmd{Op: api.OpConnected, U: 1, V: 3}, api.ErrVert}, {api.Cmd{Op: api.OpSize, U: 3}, api.ErrVert}, {api.Cmd{Op: api.OpCluster, U: 3, W: 9}, api.ErrVert},
		{api.Cmd{Op: api.OpMinimax, U: 3, V: 1}, api.ErrVert}, {api.Cmd{Op: api.OpRandom, Draws: ids(1, 2)}, api.ErrDraws}, {api.Cmd{Op: api.OpHisto, Bounds: []int64{2, 2}}, api.ErrArg},
		{api.Cmd{}, api.ErrArg}, {api.Cmd{Op: -1}, api.ErrArg}, {api.Cmd{Op: 16}, api.ErrArg}, {api.Cmd{Op: 99}, api.ErrArg}, {api.Cmd{Op: math.MaxInt}, api.ErrArg}, {api.Cmd{Op: api.OpTick, T: 5, U: 1}, api.ErrArg},
		{api.Cmd{Op: api.OpCount, W: 1}, api.ErrArg}, {api.Cmd{Op: api.OpRandom, Draws: make([]uint64, api.MaxDraws+1)}, api.ErrArg}, {api.Cmd{Op: api.OpHisto, Bounds: make([]int64, 1025)}, api.ErrArg},
		{api.Cmd{Op: api.OpAdd, U: 1, V: 2, T: 5, Draws: ids(1)}, api.ErrArg},
	}
	for i, b := range bad {
		fails(t, e, b.c, b.want)
		counts(t, e, uint64(i)+2, uint64(i)+1, 0)
		w := e.Window()
		if l := w.Live(); len(l) != 1 || l[0].Rec != (api.Rec{U: 1, V: 2, W: 5, T: 3}) || w.Now() != 3 || w.Version() != 1 {
			t.Errorf("after %v: %v at %d, version %d", b.c, l, w.Now(), w.Version())
		}
	}
	nums(t, e, add(2, 3, 0, 5), 2)
	fails(t, e, add(1, 2, 0, 5), api.ErrEdges)
	nums(t, e, api.Cmd{Op: api.OpStats}, 5, 2, 2, 0, 0)
}

// P42.2: numbers above 2^63 - 1.
func TestVersion(t *testing.T) {
	w, err := window.Restore(config(10, 2, 3, 0), 5, most-1, []api.Rec{{U: 1, V: 2, T: 5}})
	if err != api.OK {
		t.Fatalf("Restore: error %d", err)
	}
	e, err := engine.On(w)
	if err != api.OK {
		t.Fatalf("On: error %d", err)
	}
	do(t, e, api.Cmd{Op: api.OpBridges}, api.Reply{IDs: ids(most)})
	nums(t, e, api.Cmd{Op: api.OpStats}, 5, -3, most, most-1, 0)
	fails(t, e, add(1, 2, 0, 5), api.ErrOver)
	nums(t, e, tick(15), 1)
	nums(t, e, api.Cmd{Op: api.OpStats}, 15, -2, most, most, 0)
}

// P42.1
func TestOn(t *testing.T) {
	for _, c := range []api.Config{{}, config(0, 2, 3, 0), config(10, 0, 3, 0), config(10, 2, 1, 0), config(10, 2, 3, -1), config(10, api.MaxEdges+1, 3, 0)} {
		if e, err := engine.New(c); e != nil || err != api.ErrArg {
			t.Errorf("New(%v) = %v, error %d", c, e, err)
		}
		if b, err := engine.Run(c, frames(t, tick(1))); len(b) != 0 || err != api.ErrArg {
			t.Errorf("Run(%v) = %v, error %d", c, b, err)
		}
	}
	for _, w := range []*window.Window{nil, {}} {
		if e, err := engine.On(w); e != nil || err != api.ErrNil {
			t.Errorf("On = %v, error %d", e, err)
		}
	}
	w, _ := window.New(config(10, 4, 4, 4))
	w.Add(api.Rec{U: 1, V: 2, W: 5, T: 0})
	e, err := engine.On(w)
	if err != api.OK {
		t.Fatalf("On: error %d", err)
	}
	counts(t, e, 0, 0, 0)
	// Both are independent now.
	w.Add(api.Rec{U: 7, V: 8, W: 5, T: 0})
	nums(t, e, add(2, 3, 5, 4), 2)
	nums(t, e, api.Cmd{Op: api.OpCount}, 2, 3, 1)
	if edges, verts, comps := w.Count(); edges != 2 || verts != 4 || comps != 2 || w.Now() != 0 {
		t.Errorf("Count = %d, %d, %d", edges, verts, comps)
	}
}

// P42.3: the window of an engine is a copy.
func TestWindow(t *testing.T) {
	e := made(t, config(10, 4, 4, 4))
	nums(t, e, add(1, 2, 5, 0), 1)
	w := e.Window()
	if w.Config() != config(10, 4, 4, 4) {
		t.Errorf("Config = %v", w.Config())
	}
	w.Add(api.Rec{U: 2, V: 3, T: 7})
	nums(t, e, api.Cmd{Op: api.OpCount}, 1, 2, 1)
	nums(t, e, tick(5), 0)
	if w.Now() != 7 || len(w.Live()) != 2 || e.Window().Now() != 5 {
		t.Errorf("%v at %d", w.Live(), w.Now())
	}
}

// P42.4: a copy has the counts and the dendrogram, of this version or none.
func TestCopy(t *testing.T) {
	e := made(t, config(10, 4, 4, 4))
	merges := api.Cmd{Op: api.OpMerges}
	a := e.Copy()
	counts(t, a, 0, 0, 0)
	nums(t, a, merges)
	counts(t, a, 1, 0, 1)
	counts(t, a.Copy(), 1, 0, 1)
	b := a.Copy()
	nums(t, b, merges)
	counts(t, b, 2, 0, 1)
	nums(t, b, add(1, 2, 5, 0), 1)
	c := b.Copy()
	counts(t, c, 3, 0, 1)
	do(t, c, merges, api.Reply{IDs: ids(1, 2), Nums: []int64{5}})
	counts(t, c, 4, 0, 2)
	d := c.Copy().Copy()
	counts(t, d, 4, 0, 2)
	do(t, d, merges, api.Reply{IDs: ids(1, 2), Nums: []int64{5}})
	counts(t, d, 5, 0, 2)
	fails(t, d, add(1, 1, 0, 0), api.ErrLoop)
	nums(t, d, add(1, 2, 3, 4), 2)
	counts(t, d, 7, 1, 2)
	nums(t, d, api.Cmd{Op: api.OpStats}, 4, 2, 2, 0, 2)
	do(t, d, merges, api.Reply{IDs: ids(1, 2), Nums: []int64{3}})
	nums(t, d, api.Cmd{Op: api.OpStats}, 4, 2, 2, 0, 3)
	counts(t, b, 3, 0, 1)
	counts(t, c, 4, 0, 2)
	do(t, b, merges, api.Reply{IDs: ids(1, 2), Nums: []int64{5}})
	counts(t, b, 4, 0, 2)
	counts(t, e, 0, 0, 0)
	nums(t, e, api.Cmd{Op: api.OpCount}, 0, 0, 0)
}

// P42.5: frames that are not valid, at the beginning or later.
func TestRun(t *testing.T) {
	c := config(10, 4, 4, 4)
	l := []api.Cmd{add(1, 2, 5, 0), add(1, 1, 5, 0), {Op: api.OpCount}}
	want := []api.Reply{{Op: api.OpAdd, Nums: []int64{1}}, {Op: api.OpAdd, Err: api.ErrLoop}, {Op: api.OpCount, Nums: []int64{1, 2, 1}}}
	b := frames(t, l...)
	run(t, c, b, want...)
	bad := api.Reply{Err: api.ErrForm}
	run(t, c, append(b, 0), want[0], want[1], want[2], bad)
	run(t, c, slices.Concat(b, []byte{1, 99}, b), want[0], want[1], want[2], bad)
	run(t, c, slices.Concat([]byte{1, 0}, b), bad)
	run(t, c, b[:len(b)-1], want[0], want[1], bad)
	run(t, c, b[:7], want[0], bad)
	run(t, c, slices.Concat(b, b), want[0], want[1], want[2], api.Reply{Op: api.OpAdd, Nums: []int64{2}}, want[1], api.Reply{Op: api.OpCount, Nums: []int64{2, 2, 1}})
	got, err := engine.Run(c, []byte{0})
	if !bytes.Equal(got, []byte{0, 15, 0, 0, 0}) || err != api.OK {
		t.Errorf("Run = %v, error %d", got, err)
	}
}

// P42.2, P42.5: the greatest replies are valid.
func TestFull(t *testing.T) {
	var l []api.Cmd
	for i := range api.MaxEdges {
		l = append(l, add(uint64(i%api.MaxVerts), uint64((i+1)%api.MaxVerts), int64(i), int64(i)))
	}
	l = append(l, api.Cmd{Op: api.OpSweep}, api.Cmd{Op: api.OpRandom, Draws: make([]uint64, api.MaxDraws)}, add(1, 2, 0, 0), add(1, 2, 0, 1<<20-1), api.Cmd{Op: api.OpMerges}, api.Cmd{Op: api.OpClusters, W: -1})
	b, err := engine.Run(config(1<<20, api.MaxEdges, api.MaxVerts, api.MaxDraws), frames(t, l...))
	if err != api.OK {
		t.Fatalf("Run: error %d", err)
	}
	replies, err := reply.GetAll(b)
	if err != api.OK || len(replies) != len(l) {
		t.Fatalf("GetAll: %d replies, error %d", len(replies), err)
	}
	last := replies[api.MaxEdges:]
	if len(last[0].Nums) != api.MaxSlots || len(last[1].Nums) != 3*(api.MaxEdges+1) || last[2].Err != api.ErrTime || last[3].Err != api.ErrEdges || len(last[4].IDs) != 2*(api.MaxVerts-1) || len(last[5].IDs) != api.MaxVerts {
		t.Errorf("%d and %d Nums, errors %d and %d, %d and %d IDs", len(last[0].Nums), len(last[1].Nums), last[2].Err, last[3].Err, len(last[4].IDs), len(last[5].IDs))
	}
}

// R4
func TestMemory(t *testing.T) {
	e := made(t, config(10, 4, 4, 4))
	nums(t, e, add(1, 2, 5, 0), 1)
	nums(t, e, add(2, 3, 7, 0), 2)
	for _, op := range []api.Op{api.OpClusters, api.OpMerges, api.OpSweep, api.OpBridges, api.OpCores, api.OpStats} {
		c := api.Cmd{Op: op}
		first := e.Do(c)
		again := e.Do(c)
		clear(first.IDs)
		clear(first.Nums)
		do(t, e, c, again)
	}
	draws, bounds := ids(1, 2, 3), []int64{1, 2, 0}
	e.Do(api.Cmd{Op: api.OpRandom, Draws: draws[:2]})
	e.Do(api.Cmd{Op: api.OpHisto, Bounds: bounds[:2]})
	if !slices.Equal(draws, ids(1, 2, 3)) || !slices.Equal(bounds, []int64{1, 2, 0}) {
		t.Errorf("%v, %v", draws, bounds)
	}
}

// R2
func TestNotValid(t *testing.T) {
	for _, e := range []*engine.Engine{nil, {}} {
		fails(t, e, tick(1), api.ErrNil)
		fails(t, e, api.Cmd{Op: 99}, api.ErrNil)
		fails(t, e, api.Cmd{}, api.ErrNil)
		counts(t, e, 0, 0, 0)
		if e.Window() != nil || e.Copy() != nil {
			t.Errorf("Window %v, Copy %v", e.Window(), e.Copy())
		}
	}
}
