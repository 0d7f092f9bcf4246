package judge

import (
	"cmp"
	"math"
	"slices"

	"seepage/api"
	"seepage/dsu"
	"seepage/graph"
)

// picture is the graph of some live edges.
type picture struct {
	ids   []uint64
	edges []api.Edge
	graph *graph.Graph
}

// pictureOf returns the graph of some live edges.
func pictureOf(l []api.Rec) *picture {
	p := &picture{ids: idsOf(l)}
	for _, r := range l {
		u, _ := slices.BinarySearch(p.ids, r.U)
		v, _ := slices.BinarySearch(p.ids, r.V)
		p.edges = append(p.edges, api.Edge{U: u, V: v, W: r.W})
	}
	// A window has no loops, and no more vertices and edges than a graph can have.
	p.graph, _ = graph.New(len(p.ids), p.edges)
	return p
}

// find returns the numbers of vertices.
func (p *picture) find(ids ...uint64) ([]int, api.Errno) {
	var at []int
	for _, id := range ids {
		i, there := slices.BinarySearch(p.ids, id)
		if !there {
			return nil, api.ErrVert
		}
		at = append(at, i)
	}
	return at, api.OK
}

// connected reports whether two vertices are connected.
func (p *picture) connected(u, v uint64) api.Reply {
	at, e := p.find(u, v)
	if e != api.OK {
		return api.Reply{Err: e}
	}
	labels := p.graph.Labels()
	return api.Reply{Yes: labels[at[0]] == labels[at[1]]}
}

// size returns the size of the component of a vertex.
func (p *picture) size(u uint64) api.Reply {
	at, e := p.find(u)
	if e != api.OK {
		return api.Reply{Err: e}
	}
	return api.Reply{Nums: []int64{int64(len(with(p.graph, at[0])))}}
}

// with returns the component of a vertex.
func with(g *graph.Graph, v int) []int {
	return choose(g.Components(), func(c []int) bool { return slices.Contains(c, v) })[0]
}

// dendrogram returns the reply to a command that needs the dendrogram.
func (p *picture) dendrogram(c api.Cmd) api.Reply {
	switch c.Op {
	case api.OpCluster:
		return p.cluster(c.U, c.W)
	case api.OpClusters:
		return p.clusters(c.W)
	case api.OpMinimax:
		return p.minimax(c.U, c.V)
	case api.OpMerges:
		return p.merges()
	default:
		return p.histo(c.W, c.Bounds)
	}
}

// cluster returns the cluster of a vertex.
func (p *picture) cluster(u uint64, theta int64) api.Reply {
	at, e := p.find(u)
	if e != api.OK {
		return api.Reply{Err: e}
	}
	c := with(p.graph.Under(theta), at[0])
	return api.Reply{IDs: []uint64{p.ids[c[0]]}, Nums: []int64{int64(len(c))}}
}

// clusters returns all clusters.
func (p *picture) clusters(theta int64) api.Reply {
	var r api.Reply
	for _, c := range p.graph.Under(theta).Components() {
		r.IDs = append(r.IDs, p.ids[c[0]])
		r.Nums = append(r.Nums, int64(len(c)))
	}
	return r
}

// minimax returns the weight with which two vertices become connected when edges are
// added by weight.
func (p *picture) minimax(u, v uint64) api.Reply {
	at, e := p.find(u, v)
	if e != api.OK {
		return api.Reply{Err: e}
	}
	if u == v {
		return api.Reply{Yes: true, Nums: []int64{math.MinInt64}}
	}
	sets := p.sets()
	for _, edge := range p.byWeight() {
		sets.Union(edge.U, edge.V)
		if sets.Same(at[0], at[1]) {
			return api.Reply{Yes: true, Nums: []int64{edge.W}}
		}
	}
	return api.Reply{}
}

// merges returns the merges of components when edges are added by weight.
func (p *picture) merges() api.Reply {
	var r api.Reply
	sets := p.sets()
	for _, edge := range p.byWeight() {
		a, _ := sets.Least(edge.U)
		b, _ := sets.Least(edge.V)
		if a != b {
			sets.Union(a, b)
			r.IDs = append(r.IDs, p.ids[min(a, b)], p.ids[max(a, b)])
			r.Nums = append(r.Nums, edge.W)
		}
	}
	return r
}

// histo returns how many clusters there are of the sizes between the bounds.
func (p *picture) histo(theta int64, bounds []int64) api.Reply {
	for i := 1; i < len(bounds); i++ {
		if bounds[i] <= bounds[i-1] {
			return api.Reply{Err: api.ErrArg}
		}
	}
	counts := make([]int64, len(bounds)+1)
	for _, c := range p.graph.Under(theta).Components() {
		reached := choose(bounds, func(bound int64) bool { return bound <= int64(len(c)) })
		counts[len(reached)]++
	}
	return api.Reply{Nums: counts}
}

// sets returns sets of the vertices, each of which is alone.
func (p *picture) sets() *dsu.Sets {
	// There are fewer vertices than a partition can have elements.
	sets, _ := dsu.New(len(p.ids))
	return sets
}

// byWeight returns the edges by weight; those of equal weights keep their order.
func (p *picture) byWeight() []api.Edge {
	l := slices.Clone(p.edges)
	slices.SortStableFunc(l, func(a, b api.Edge) int { return cmp.Compare(a.W, b.W) })
	return l
}
