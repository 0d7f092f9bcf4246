package engine_test

import (
	"math/rand/v2"
	"testing"

	"seepage/api"
	"seepage/codec"
	"seepage/reply"
	"seepage/view"
	"seepage/window"
)

// calls is an engine as the chapter's table describes it: a window, and a view of it.
type calls struct {
	w *window.Window
	v *view.View
}

func (m *calls) do(c api.Cmd) api.Reply {
	r := api.Reply{Op: c.Op}
	num := func(l ...int) {
		for _, x := range l {
			r.Nums = append(r.Nums, int64(x))
		}
	}
	switch c.Op {
	case api.OpAdd:
		r.Err = m.w.Add(api.Rec{U: c.U, V: c.V, W: c.W, T: c.T})
		added, _ := m.w.Added()
		num(int(added))
	case api.OpTick:
		_, before := m.w.Added()
		r.Err = m.w.Tick(c.T)
		_, after := m.w.Added()
		num(int(after - before))
	case api.OpConnected:
		r.Yes, r.Err = m.w.Connected(c.U, c.V)
	case api.OpSize:
		size, err := m.w.Size(c.U)
		r.Err = err
		num(size)
	case api.OpCount:
		num(m.w.Count())
	default:
		m.ask(c, &r, num)
	}
	if r.Err != api.OK {
		return api.Reply{Op: c.Op, Err: r.Err}
	}
	return r
}

// ask makes the reply to a query of the view.
func (m *calls) ask(c api.Cmd, r *api.Reply, num func(l ...int)) {
	switch c.Op {
	case api.OpCluster:
		group, err := m.v.Cluster(c.U, c.W)
		r.Err, r.IDs = err, ids(group.Least)
		num(group.Size)
	case api.OpClusters:
		for _, group := range m.v.Clusters(c.W) {
			r.IDs = append(r.IDs, group.Least)
			num(group.Size)
		}
	case api.OpMinimax:
		var theta int64
		theta, r.Yes, r.Err = m.v.Minimax(c.U, c.V)
		if r.Yes {
			r.Nums = []int64{theta}
		}
	case api.OpMerges:
		pairs, heights := m.v.Merges()
		for i, pair := range pairs {
			r.IDs = append(r.IDs, pair[0], pair[1])
			r.Nums = append(r.Nums, heights[i])
		}
	case api.OpSweep:
		for _, level := range m.v.Levels() {
			num(int(level.Theta), level.Row.Largest, level.Row.Count, int(level.Row.Squares))
		}
	case api.OpRandom:
		rows, err := m.v.Random(c.Draws)
		r.Err = err
		for _, row := range rows {
			num(row.Largest, row.Count, int(row.Squares))
		}
	case api.OpHisto:
		r.Nums, r.Err = m.v.Histogram(c.W, c.Bounds)
	case api.OpBridges:
		r.IDs = m.v.Bridges()
	case api.OpCores:
		names, numbers := m.v.Cores()
		r.IDs = names
		num(numbers...)
	case api.OpStats:
		added, expired := m.w.Added()
		num(int(m.w.Now()), int(m.w.Version()), int(added), int(expired), m.v.Builds())
	}
}

// command returns a random command, which is valid; its time is near another one.
func command(r *rand.Rand, now int64) api.Cmd {
	op := api.Op(1 + r.IntN(15))
	u, v, w, at := r.Uint64N(8), r.Uint64N(8), r.Int64N(12)-4, now+r.Int64N(6)-1
	if r.IntN(2) == 0 {
		op = api.OpAdd
	}
	switch op {
	case api.OpAdd:
		return add(u, v, w, at)
	case api.OpTick:
		return tick(at)
	case api.OpConnected, api.OpMinimax:
		return api.Cmd{Op: op, U: u, V: v}
	case api.OpSize:
		return api.Cmd{Op: op, U: u}
	case api.OpCluster:
		return api.Cmd{Op: op, U: u, W: w}
	case api.OpClusters:
		return api.Cmd{Op: op, W: w}
	case api.OpRandom:
		c := api.Cmd{Op: op}
		for range r.IntN(10) {
			c.Draws = append(c.Draws, r.Uint64())
		}
		return c
	case api.OpHisto:
		return api.Cmd{Op: op, W: w, Bounds: [][]int64{nil, {2}, {1, 2, 4}, {3, 3}}[r.IntN(4)]}
	default:
		return api.Cmd{Op: op}
	}
}

// P42.2 to P42.6
func TestByCalls(t *testing.T) {
	for seed := range uint64(150) {
		r := rand.New(rand.NewPCG(seed, 42))
		c := config(1+r.Int64N(20), 1+r.IntN(9), 2+r.IntN(7), r.IntN(10))
		e := made(t, c)
		w, _ := window.New(c)
		v, _ := view.New(w)
		m := &calls{w, v}
		var l []api.Cmd
		var want []api.Reply
		cmds, errs := uint64(0), uint64(0)
		for range 60 {
			cmd := command(r, w.Now())
			expected := m.do(cmd)
			do(t, e, cmd, expected)
			l, want = append(l, cmd), append(want, expected)
			cmds++
			if expected.Err != api.OK {
				errs++
			}
			counts(t, e, cmds, errs, v.Builds())
			if r.IntN(10) == 0 {
				e = e.Copy()
				counts(t, e, cmds, errs, v.Builds())
			}
		}
		run(t, c, frames(t, l...), want...)
		some := r.IntN(len(l))
		run(t, c, frames(t, l[:some]...), want[:some]...)
	}
}

// P42.6: queries change nothing but the counts and Builds.
func TestQueries(t *testing.T) {
	for seed := range uint64(60) {
		r := rand.New(rand.NewPCG(seed, 426))
		e := made(t, config(20, 9, 9, 9))
		for range 80 {
			e.Do(command(r, e.Window().Now()))
		}
		before := e.Copy()
		var l []api.Cmd
		for range 40 {
			c := command(r, 0)
			if c.Op != api.OpAdd && c.Op != api.OpTick {
				e.Do(c)
			}
			l = append(l, command(r, e.Window().Now()))
		}
		for _, c := range l {
			a, b := e.Do(c), before.Do(c)
			if c.Op == api.OpStats {
				a.Nums, b.Nums = a.Nums[:4], b.Nums[:4]
			}
			if !reply.Same(a, b) {
				t.Fatalf("Do(%v) = %v after queries, and %v without", c, a, b)
			}
		}
	}
}

// P42.5: Run of any bytes is what reading and executing them one by one gives.
func TestAnyBytes(t *testing.T) {
	for seed := range uint64(500) {
		r := rand.New(rand.NewPCG(seed, 425))
		c := config(5, 3, 4, 3)
		var b []byte
		for range 8 {
			b = append(b, frames(t, command(r, int64(len(b)/3)))...)
		}
		b[r.IntN(len(b))] ^= byte(r.IntN(4))
		e := made(t, c)
		l, n, _ := codec.GetAll(b)
		var want []api.Reply
		for _, cmd := range l {
			want = append(want, e.Do(cmd))
		}
		if n < len(b) {
			want = append(want, api.Reply{Err: api.ErrForm})
		}
		run(t, c, b, want...)
	}
}
