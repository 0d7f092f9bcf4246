package engine

import (
	"seepage/api"
	"seepage/codec"
)

// command executes a command of one kind. The reply need not have its Op.
type command func(e *Engine, c api.Cmd) api.Reply

// commands returns the functions that execute commands, by their Op.
func commands() [16]command {
	return [16]command{
		api.OpAdd:       (*Engine).add,
		api.OpTick:      (*Engine).tick,
		api.OpConnected: (*Engine).connected,
		api.OpSize:      (*Engine).size,
		api.OpCount:     (*Engine).count,
		api.OpCluster:   (*Engine).cluster,
		api.OpClusters:  (*Engine).clusters,
		api.OpMinimax:   (*Engine).minimax,
		api.OpMerges:    (*Engine).merges,
		api.OpSweep:     (*Engine).sweep,
		api.OpRandom:    (*Engine).random,
		api.OpHisto:     (*Engine).histo,
		api.OpBridges:   (*Engine).bridges,
		api.OpCores:     (*Engine).cores,
		api.OpStats:     (*Engine).stats,
	}
}

// execute executes a command, if it is valid.
func (e *Engine) execute(c api.Cmd) api.Reply {
	if codec.Check(c) != api.OK {
		return failed(api.ErrArg)
	}
	return commands()[c.Op](e, c)
}

// failed returns a reply with an error.
func failed(err api.Errno) api.Reply {
	return api.Reply{Err: err}
}

// done returns a reply with these Nums, or one with an error.
func done(err api.Errno, nums ...int64) api.Reply {
	if err != api.OK {
		return failed(err)
	}
	return api.Reply{Nums: nums}
}

func (e *Engine) add(c api.Cmd) api.Reply {
	err := e.window.Add(api.Rec{U: c.U, V: c.V, W: c.W, T: c.T})
	added, _ := e.window.Added()
	return done(err, int64(added))
}

func (e *Engine) tick(c api.Cmd) api.Reply {
	_, before := e.window.Added()
	err := e.window.Tick(c.T)
	_, expired := e.window.Added()
	return done(err, int64(expired-before))
}

func (e *Engine) connected(c api.Cmd) api.Reply {
	yes, err := e.window.Connected(c.U, c.V)
	return api.Reply{Err: err, Yes: yes}
}

func (e *Engine) size(c api.Cmd) api.Reply {
	size, err := e.window.Size(c.U)
	return done(err, int64(size))
}

func (e *Engine) count(api.Cmd) api.Reply {
	edges, verts, comps := e.window.Count()
	return done(api.OK, int64(edges), int64(verts), int64(comps))
}

func (e *Engine) cluster(c api.Cmd) api.Reply {
	group, err := e.view.Cluster(c.U, c.W)
	r := done(err, int64(group.Size))
	if err == api.OK {
		r.IDs = []uint64{group.Least}
	}
	return r
}

func (e *Engine) clusters(c api.Cmd) api.Reply {
	var r api.Reply
	for _, group := range e.view.Clusters(c.W) {
		r.IDs = append(r.IDs, group.Least)
		r.Nums = append(r.Nums, int64(group.Size))
	}
	return r
}

func (e *Engine) minimax(c api.Cmd) api.Reply {
	theta, yes, err := e.view.Minimax(c.U, c.V)
	r := api.Reply{Err: err, Yes: yes}
	if yes {
		r.Nums = []int64{theta}
	}
	return r
}

func (e *Engine) merges(api.Cmd) api.Reply {
	ids, heights := e.view.Merges()
	r := api.Reply{Nums: heights}
	for _, pair := range ids {
		r.IDs = append(r.IDs, pair[0], pair[1])
	}
	return r
}

func (e *Engine) sweep(api.Cmd) api.Reply {
	var r api.Reply
	for _, level := range e.view.Levels() {
		r.Nums = append(r.Nums, level.Theta, int64(level.Row.Largest), int64(level.Row.Count), level.Row.Squares)
	}
	return r
}

func (e *Engine) random(c api.Cmd) api.Reply {
	rows, err := e.view.Random(c.Draws)
	r := api.Reply{Err: err}
	for _, row := range rows {
		r.Nums = append(r.Nums, int64(row.Largest), int64(row.Count), row.Squares)
	}
	return r
}

func (e *Engine) histo(c api.Cmd) api.Reply {
	counts, err := e.view.Histogram(c.W, c.Bounds)
	return done(err, counts...)
}

func (e *Engine) bridges(api.Cmd) api.Reply {
	return api.Reply{IDs: e.view.Bridges()}
}

func (e *Engine) cores(api.Cmd) api.Reply {
	ids, numbers := e.view.Cores()
	r := api.Reply{IDs: ids}
	for _, number := range numbers {
		r.Nums = append(r.Nums, int64(number))
	}
	return r
}

func (e *Engine) stats(api.Cmd) api.Reply {
	added, expired := e.window.Added()
	version := int64(e.window.Version())
	return done(api.OK, e.window.Now(), version, int64(added), int64(expired), int64(e.Builds()))
}
