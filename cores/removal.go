package cores

import (
	"iter"
	"slices"

	"seepage/graph"
)

// none is neither a vertex, nor a degree, nor a color.
const none = -1

// removal goes over the vertices in the order in which they are removed, each with
// the degree that it has then.
func removal(g *graph.Graph) iter.Seq2[int, int] {
	return func(yield func(v, degree int) bool) {
		left := sorted(g)
		for range g.N() {
			v, degree := left.take()
			if !yield(v, degree) {
				return
			}
			for _, other := range g.Around(v) {
				left.lower(other)
			}
		}
	}
}

// buckets contains the vertices that are left, by their degrees.
type buckets struct {
	// lists contains for each degree, in increasing order, vertices that have it,
	// and others that had it before.
	lists [][]int
	// degrees contains the degree of each vertex that is left, and none of the others.
	degrees []int
	// lowest is a degree below which there is no vertex.
	lowest int
}

// sorted returns the buckets with all vertices of a graph.
func sorted(g *graph.Graph) *buckets {
	b := &buckets{degrees: make([]int, g.N())}
	for v := range g.N() {
		degree := g.Degree(v)
		b.degrees[v] = degree
		for len(b.lists) <= degree {
			b.lists = append(b.lists, nil)
		}
		b.lists[degree] = append(b.lists[degree], v)
	}
	return b
}

// take removes the first vertex with the smallest degree, of which there is one.
func (b *buckets) take() (v, degree int) {
search:
	for {
		for i, at := range b.lists[b.lowest] {
			if b.degrees[at] == b.lowest {
				b.lists[b.lowest] = b.lists[b.lowest][i+1:]
				v = at
				break search
			}
		}
		b.lists[b.lowest] = nil
		b.lowest++
	}
	b.degrees[v] = none
	return v, b.lowest
}

// lower moves a vertex, if it is left, to the next lower degree.
func (b *buckets) lower(v int) {
	if b.degrees[v] == none {
		return
	}
	b.degrees[v]--
	degree := b.degrees[v]
	at, _ := slices.BinarySearch(b.lists[degree], v)
	b.lists[degree] = slices.Insert(b.lists[degree], at, v)
	b.lowest = min(b.lowest, degree)
}
