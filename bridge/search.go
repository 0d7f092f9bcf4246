package bridge

import "seepage/graph"

const none = -1

// visit is a vertex that a depth-first search goes through.
type visit struct {
	vertex int
	// edge is the one by which the vertex was reached, or none.
	edge int
	// found is the vertex's place, from 1 on, in the order in which vertices are
	// reached; low is the smallest one to which an edge leads from the vertex, or
	// from one below it, other than the edge by which the vertex was reached.
	found, low int
	// ends are the edges of the vertex that have not been looked at.
	ends []end
}

// end is an edge of a vertex, and the other end of it.
type end struct{ edge, other int }

// search goes through a graph depth first. It calls pass with each edge, once it
// is gone over for the first time, and leave with each vertex that is left
// for the one from which it was reached.
func search(g *graph.Graph, pass func(edge int), leave func(v, from visit)) {
	// found contains 0 for vertices that have not been reached.
	found := make([]int, g.N())
	reached := 0
	reach := func(vertex, edge int) visit {
		reached++
		found[vertex] = reached
		return visit{vertex: vertex, edge: edge, found: reached, low: reached, ends: endsOf(g, vertex)}
	}
	for root := range found {
		if found[root] > 0 {
			continue
		}
		way := []visit{reach(root, none)}
	descend:
		for {
			at := &way[len(way)-1]
			for len(at.ends) > 0 {
				next := at.ends[0]
				at.ends = at.ends[1:]
				if next.edge == at.edge || found[next.other] > at.found {
					// It was passed from its other end.
					continue
				}
				pass(next.edge)
				if found[next.other] == 0 {
					way = append(way, reach(next.other, next.edge))
					continue descend
				}
				at.low = min(at.low, found[next.other])
			}
			left := *at
			way = way[:len(way)-1]
			if len(way) == 0 {
				break
			}
			from := &way[len(way)-1]
			from.low = min(from.low, left.low)
			leave(left, *from)
		}
	}
}

// endsOf returns the edges of a vertex.
func endsOf(g *graph.Graph, v int) []end {
	ends := make([]end, 0, g.Degree(v))
	for edge, other := range g.Around(v) {
		ends = append(ends, end{edge: edge, other: other})
	}
	return ends
}
