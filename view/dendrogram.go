package view

import (
	"seepage/api"
	"seepage/cluster"
	"seepage/minimax"
	"seepage/recon"
)

// stamp says of which state of a window a dendrogram is: it is zero if there is none.
type stamp struct {
	built   bool
	version uint64
}

// dendrogram contains all that is made together of the graph of a view.
type dendrogram struct {
	stamp
	ids      []uint64
	tree     api.Tree
	clusters *cluster.View
	paths    *minimax.Finder
}

// build returns the dendrogram of a graph.
func build(ids []uint64, edges []api.Edge) dendrogram {
	// The edges are those of a graph.
	tree, _ := recon.Build(len(ids), edges)
	clusters, _ := cluster.New(len(ids), edges)
	paths, _ := minimax.New(len(ids), edges)
	return dendrogram{ids: ids, tree: tree, clusters: clusters, paths: paths}
}

// named returns a cluster with its least id.
func (d *dendrogram) named(g api.Group) Group {
	return Group{Least: d.ids[g.Least], Size: g.Size}
}

// query calls a function with the dendrogram of the window as it is now, which is
// built only if the window has changed. With a view that is not valid, it does nothing.
func (v *View) query(ask func(d *dendrogram)) {
	if !v.valid() {
		return
	}
	if now := (stamp{built: true, version: v.window.Version()}); v.kept.stamp != now {
		v.kept = build(v.Graph())
		v.kept.stamp = now
		v.builds++
	}
	ask(&v.kept)
}
