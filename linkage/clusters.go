package linkage

import (
	"iter"
	"slices"

	"seepage/api"
	"seepage/checked"
)

// rule is how a method computes distances between clusters: as shares of numbers.
type rule struct {
	// join returns the number of a union from those of its two parts.
	join func(x, y int64) int64
	// share returns by what the number between clusters of these sizes is divided.
	share func(a, b int) int64
}

// ruleOf returns the rule of a method, or the error of a method and a matrix.
func ruleOf(n int, d []int64, m api.Method) (rule, api.Errno) {
	r := rule{share: func(_, _ int) int64 { return 1 }}
	switch m {
	case api.Single:
		r.join = func(x, y int64) int64 { return min(x, y) }
	case api.Complete:
		r.join = func(x, y int64) int64 { return max(x, y) }
	case api.Average:
		r.join = func(x, y int64) int64 { return x + y }
		r.share = func(a, b int) int64 { return int64(a) * int64(b) }
	default:
		return rule{}, api.ErrArg
	}
	return r, Check(n, d)
}

// clusters are the clusters that there are, which are named by their least members.
type clusters struct {
	rule
	n int
	// numbers contains those between each two clusters.
	numbers []int64
	// sizes contains 0 for points that are not the least one of a cluster.
	sizes [limit]int
}

// alone returns one cluster for each point.
func alone(n int, d []int64, r rule) *clusters {
	return &clusters{rule: r, n: n, numbers: slices.Clone(d), sizes: ones(n)}
}

// ones returns the sizes of n clusters with one point each.
func ones(n int) (sizes [limit]int) {
	for i := range n {
		sizes[i] = 1
	}
	return sizes
}

// nearest returns the two clusters that are united next, if there are two.
func (c *clusters) nearest() (a, b int) {
	var least api.Frac
	found := false
	for i, j := range c.pairs() {
		distance := c.distance(i, j)
		if order, _ := checked.Compare(distance, least); !found || order < 0 {
			a, b, least, found = i, j, distance, true
		}
	}
	return a, b
}

// unite unites two clusters, of which a is the smaller one.
func (c *clusters) unite(a, b int) api.Merge {
	distance := c.distance(a, b)
	// A distance has a denominator of at least 1.
	height, _ := checked.Reduce(distance.N, distance.D)
	// The numbers of a, b and points that are not clusters any more change, too, but
	// are never looked at.
	for k := range c.n {
		joined := c.join(c.numbers[a*c.n+k], c.numbers[b*c.n+k])
		c.numbers[a*c.n+k], c.numbers[k*c.n+a] = joined, joined
	}
	c.sizes[a] += c.sizes[b]
	c.sizes[b] = 0
	return api.Merge{A: a, B: b, Height: height, Size: c.sizes[a]}
}

// distance returns the distance between two clusters, not in lowest terms.
func (c *clusters) distance(a, b int) api.Frac {
	return api.Frac{N: c.numbers[a*c.n+b], D: c.share(c.sizes[a], c.sizes[b])}
}

// pairs goes over the pairs of clusters, in the order of the smaller one and then
// of the greater one.
func (c *clusters) pairs() iter.Seq2[int, int] {
	return func(yield func(int, int) bool) {
		for a := range c.n {
			for b := a + 1; b < c.n; b++ {
				if c.sizes[a] > 0 && c.sizes[b] > 0 && !yield(a, b) {
					return
				}
			}
		}
	}
}
