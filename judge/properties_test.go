package judge_test

import (
	"math/rand/v2"
	"testing"

	"seepage/api"
	"seepage/engine"
	"seepage/judge"
)

// command returns a random command for a number of ids; its time is near another
// one. Some are not valid.
func command(r *rand.Rand, now int64, n uint64) api.Cmd {
	u, v, w, at := r.Uint64N(n), r.Uint64N(n), r.Int64N(12)-4, now+r.Int64N(6)-1
	op := api.Op(r.IntN(17))
	if r.IntN(2) == 0 {
		op = api.OpAdd
	}
	c := api.Cmd{Op: op}
	switch op {
	case api.OpAdd:
		return add(u, v, w, at)
	case api.OpTick:
		return tick(at)
	case api.OpConnected, api.OpMinimax:
		c.U, c.V = u, v
	case api.OpSize:
		c.U = u
	case api.OpCluster:
		c.U, c.W = u, w
	case api.OpClusters:
		c.W = w
	case api.OpRandom:
		for range r.IntN(10) {
			c.Draws = append(c.Draws, r.Uint64())
		}
	case api.OpHisto:
		c.W, c.Bounds = w, [][]int64{nil, {2}, {1, 2, 4}, {3, 3}}[r.IntN(4)]
	}
	return c
}

// P46.1, P46.2, P46.4, P46.5, G1, G2, G5: engines and models that execute the same
// commands.
func TestAgrees(t *testing.T) {
	for seed := range uint64(200) {
		r := rand.New(rand.NewPCG(seed, 46))
		c := config(1+r.Int64N(20), 1+r.IntN(12), 2+r.IntN(9), r.IntN(10))
		e, _ := engine.New(c)
		m := made(t, c)
		var l []api.Cmd
		for range 80 {
			cmd := command(r, e.Window().Now(), 9)
			l = append(l, cmd)
			do(t, m, cmd, e.Do(cmd))
			if flaws := judge.Audit(e); len(flaws) > 0 {
				t.Fatalf("after %v: %v", l, flaws)
			}
		}
		agrees(t, c, l, -1, api.OK)
	}
}

// P46.5, G5: long lists of commands, with a window that is often full.
func TestLongLists(t *testing.T) {
	for seed := range uint64(4) {
		r := rand.New(rand.NewPCG(seed, 465))
		c := config(100, 150+r.IntN(100), 60, 400)
		e, _ := engine.New(c)
		var l []api.Cmd
		for range 1500 {
			cmd := command(r, e.Window().Now(), 70)
			if cmd.Op == api.OpAdd {
				cmd.T = e.Window().Now() + r.Int64N(2)
			}
			e.Do(cmd)
			l = append(l, cmd)
		}
		if flaws := judge.Audit(e); len(flaws) > 0 {
			t.Fatalf("%v", flaws)
		}
		agrees(t, c, l, -1, api.OK)
	}
}

// P46.4, P46.5: the greatest window.
func TestFull(t *testing.T) {
	c := config(1<<20, api.MaxEdges, api.MaxVerts, api.MaxDraws)
	e, _ := engine.New(c)
	m := made(t, c)
	for i := range api.MaxEdges {
		cmd := add(uint64(i%api.MaxVerts), uint64((i*7+1)%api.MaxVerts), int64(i%100), int64(i))
		do(t, m, cmd, e.Do(cmd))
	}
	for _, cmd := range []api.Cmd{{Op: api.OpCount}, {Op: api.OpMerges}, {Op: api.OpSweep}, {Op: api.OpCores}, {Op: api.OpClusters, W: 20}, add(1, 2, 3, 1<<20-1), add(1, 1<<30, 3, 1<<20), tick(1<<20 + 100), {Op: api.OpStats}} {
		do(t, m, cmd, e.Do(cmd))
	}
	if flaws := judge.Audit(e); len(flaws) > 0 {
		t.Errorf("%d flaws", len(flaws))
	}
}

// P46.3: any lists, by the definition.
func TestLookByDefinition(t *testing.T) {
	found := map[int]int{}
	for seed := range uint64(4000) {
		r := rand.New(rand.NewPCG(seed, 463))
		c := config(r.Int64N(4), r.IntN(6)-1, r.IntN(8)-1, 0)
		now := r.Int64N(6)
		var l []api.Live
		at := int64(0)
		for i := range r.IntN(6) {
			at += r.Int64N(3)
			u := r.Uint64N(6)
			edge := live(i, uint64(i)+3, u, (u+1+r.Uint64N(5))%6, at, at+c.Window)
			switch r.IntN(9) {
			case 0:
				edge.Slot = r.IntN(7) - 1
			case 1:
				edge.Seq = r.Uint64N(7)
			case 2:
				edge.Exp += r.Int64N(3) - 1
			case 3:
				edge.Rec.V = r.Uint64N(6)
			case 4:
				edge.Rec.T = r.Int64N(6)
			}
			l = append(l, edge)
		}
		var want []int
		for i, edge := range l {
			counted := edge.Rec.U != edge.Rec.V && edge.Slot >= 0 && edge.Slot < c.Edges && i < c.Edges
			timed := edge.Rec.T <= now && edge.Exp == edge.Rec.T+c.Window
			if i > 0 {
				counted = counted && edge.Seq > l[i-1].Seq
				timed = timed && edge.Rec.T >= l[i-1].Rec.T
			}
			names := map[uint64]bool{}
			for _, other := range l[:i] {
				counted = counted && other.Slot != edge.Slot
				names[other.Rec.U], names[other.Rec.V] = true, true
			}
			before := len(names)
			names[edge.Rec.U], names[edge.Rec.V] = true, true
			if len(names) > c.Verts && before <= c.Verts {
				counted = false
			}
			if !counted {
				want = append(want, api.FlawCount, i)
			}
			if edge.Exp <= now {
				want = append(want, api.FlawExpired, i)
			}
			if !timed {
				want = append(want, api.FlawClock, i)
			}
		}
		for i := 0; i < len(want); i += 2 {
			found[want[i]]++
		}
		look(t, c, now, l, want...)
	}
	if found[api.FlawCount] < 500 || found[api.FlawExpired] < 500 || found[api.FlawClock] < 500 {
		t.Errorf("%v", found)
	}
}
