package triad_test

import (
	"math/rand/v2"
	"slices"
	"testing"

	"seepage/graph"
	"seepage/triad"
)

// sample returns random pairs of vertices.
func sample(r *rand.Rand, n, edges int) [][2]int {
	var pairs [][2]int
	for range edges {
		u := r.IntN(n)
		pairs = append(pairs, [2]int{u, (u + 1 + r.IntN(n-1)) % n})
	}
	return pairs
}

// matrix returns for each two vertices whether they are neighbours.
func matrix(g *graph.Graph) [][]bool {
	near := make([][]bool, g.N())
	for v := range near {
		near[v] = make([]bool, g.N())
	}
	for _, edge := range g.Edges() {
		near[edge.U][edge.V] = true
		near[edge.V][edge.U] = true
	}
	return near
}

// lowest divides both numbers by all their common divisors; of nothing it makes 0/1.
func lowest(n, d int64) (int64, int64) {
	if d == 0 {
		return 0, 1
	}
	for k := d; k > 1; k-- {
		if n%k == 0 && d%k == 0 {
			return n / k, d / k
		}
	}
	return n, d
}

// P16.1 to P16.6
func TestByDefinition(t *testing.T) {
	for seed := range uint64(150) {
		r := rand.New(rand.NewPCG(seed, 16))
		n := 2 + r.IntN(14)
		g := made(t, n, sample(r, n, r.IntN(5*n))...)
		near := matrix(g)
		at := make([]int64, n)
		var all [][3]int
		for u := range n {
			for v := u + 1; v < n; v++ {
				for w := v + 1; w < n; w++ {
					if near[u][v] && near[v][w] && near[u][w] {
						all = append(all, [3]int{u, v, w})
						at[u]++
						at[v]++
						at[w]++
					}
				}
			}
		}
		counts(t, g, int64(len(all)), at...)
		most := r.IntN(len(all) + 2)
		list(t, g, most, all[:min(most, len(all))]...)
		sum, three := int64(0), int64(0)
		for v := range n {
			k := int64(0)
			for u := range n {
				if near[u][v] {
					k++
				}
				var both []int
				for w := range n {
					if near[u][w] && near[v][w] {
						both = append(both, w)
					}
				}
				common(t, g, u, v, both...)
			}
			num, den := lowest(at[v], k*(k-1)/2)
			local(t, g, v, num, den, 0)
			sum += k * (k - 1) / 2
			three += at[v]
		}
		num, den := lowest(three, sum)
		global(t, g, num, den, 0)
	}
}

// P16.6: what does not matter, and what one more edge adds.
func TestProperties(t *testing.T) {
	for seed := range uint64(100) {
		r := rand.New(rand.NewPCG(seed, 166))
		n := 3 + r.IntN(40)
		pairs := sample(r, n, r.IntN(6*n))
		g := made(t, n, pairs...)
		other := slices.Clone(pairs)
		for _, pair := range pairs {
			if r.IntN(3) == 0 {
				other = append(other, pair)
			}
		}
		r.Shuffle(len(other), func(i, k int) { other[i], other[k] = other[k], other[i] })
		for i, pair := range other {
			if r.IntN(2) == 0 {
				other[i] = [2]int{pair[1], pair[0]}
			}
		}
		h := made(t, n, other...)
		list(t, h, 1<<40, triad.List(g, 1<<40)...)
		sum := int64(0)
		for v := range n {
			sum += triad.At(g, v)
			f, e := triad.Local(g, v)
			local(t, h, v, f.N, f.D, e)
			common(t, h, v, 0, triad.Common(g, v, 0)...)
		}
		if sum != 3*triad.Count(g) {
			t.Fatalf("At of all vertices: %d, Count: %d", sum, triad.Count(g))
		}
		f, e := triad.Global(g)
		global(t, h, f.N, f.D, e)
		u, v := r.IntN(n), r.IntN(n)
		if u != v && !matrix(g)[u][v] {
			more := made(t, n, append(pairs, [2]int{u, v})...)
			if got := triad.Count(more) - triad.Count(g); got != int64(len(triad.Common(g, u, v))) {
				t.Fatalf("an edge between %d and %d adds %d triangles to %v", u, v, got, pairs)
			}
		}
	}
}
