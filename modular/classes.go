package modular

import (
	"slices"

	"seepage/api"
	"seepage/checked"
	"seepage/graph"
)

// classes are the classes of labels that change.
type classes struct {
	g      *graph.Graph
	labels []int
	// edges is how many edges the graph has.
	edges int64
	// degrees contains the degree of each class that has edges.
	degrees map[int]int64
}

// divide returns the classes of labels.
func divide(g *graph.Graph, labels []int) *classes {
	c := &classes{g: g, labels: slices.Clone(labels), edges: int64(len(g.Edges())), degrees: map[int]int64{}}
	for v, label := range labels {
		c.add(label, int64(g.Degree(v)))
	}
	return c
}

// add changes the degree of a class.
func (c *classes) add(label int, degree int64) {
	c.degrees[label] += degree
	if c.degrees[label] == 0 {
		delete(c.degrees, label)
	}
}

// share returns a part of 4 m^2, which a modularity is divided by.
func (c *classes) share(part int64) (api.Frac, api.Errno) {
	return checked.Reduce(part, max(4*c.edges*c.edges, 1))
}

// moves returns a function that tells what it is worth that a vertex gets a label:
// by how much 4 m I - S increases.
func (c *classes) moves(v int) func(to int) int64 {
	// edges contains how many edges lead to each class, and degree how many there are.
	edges := map[int]int64{}
	for label, times := range around(c.g, c.labels, v) {
		edges[label] = int64(times)
	}
	degree, from := int64(c.g.Degree(v)), c.labels[v]
	return func(to int) int64 {
		if to == from {
			return 0
		}
		// (x-k)^2 + (y+k)^2 - x^2 - y^2 is 2k(y-x+k).
		squares := 2 * degree * (c.degrees[to] - c.degrees[from] + degree)
		return 4*c.edges*(edges[to]-edges[from]) - squares
	}
}

// pass looks at each vertex once, and reports whether a label has changed.
func (c *classes) pass() bool {
	changed := false
	for v, from := range c.labels {
		worth := c.moves(v)
		best, most := from, int64(0)
		for to := range around(c.g, c.labels, v) {
			if gain := worth(to); gain > most {
				best, most = to, gain
			}
		}
		if best != from {
			degree := int64(c.g.Degree(v))
			c.add(from, -degree)
			c.add(best, degree)
			c.labels[v] = best
			changed = true
		}
	}
	return changed
}
