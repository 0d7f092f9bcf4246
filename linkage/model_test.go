package linkage_test

import (
	"math/big"
	"math/rand/v2"
	"slices"
	"testing"

	"seepage/api"
	"seepage/cluster"
	"seepage/dendro"
	"seepage/kruskal"
	"seepage/linkage"
	"seepage/recon"
)

// sample returns a random matrix.
func sample(r *rand.Rand, n int, spread int64) []int64 {
	var distances []int64
	for range n * n {
		distances = append(distances, r.Int64N(spread))
	}
	return matrix(n, distances...)
}

// apart returns the distance between two sets by the definition.
func apart(n int, d []int64, m api.Method, a, b []int) *big.Rat {
	least, greatest, sum := int64(api.MaxSize), int64(0), int64(0)
	for _, i := range a {
		for _, j := range b {
			least = min(least, d[i*n+j])
			greatest = max(greatest, d[i*n+j])
			sum += d[i*n+j]
		}
	}
	switch m {
	case api.Single:
		return big.NewRat(least, 1)
	case api.Complete:
		return big.NewRat(greatest, 1)
	}
	return big.NewRat(sum, int64(len(a)*len(b)))
}

func frac(r *big.Rat) api.Frac {
	return api.Frac{N: r.Num().Int64(), D: r.Denom().Int64()}
}

// cluster returns the merges by the definition.
func clustering(n int, d []int64, m api.Method) []api.Merge {
	sets := map[int][]int{}
	for i := range n {
		sets[i] = []int{i}
	}
	var merges []api.Merge
	for range n - 1 {
		var nearest *big.Rat
		a, b := 0, 0
		for i := range n {
			for j := i + 1; j < n; j++ {
				if sets[i] == nil || sets[j] == nil {
					continue
				}
				if x := apart(n, d, m, sets[i], sets[j]); nearest == nil || x.Cmp(nearest) < 0 {
					a, b, nearest = i, j, x
				}
			}
		}
		sets[a] = append(sets[a], sets[b]...)
		sets[b] = nil
		merges = append(merges, api.Merge{A: a, B: b, Height: frac(nearest), Size: len(sets[a])})
	}
	return merges
}

// P23.2, P23.4, P23.6, P23.7
func TestRunByDefinition(t *testing.T) {
	for seed := range uint64(150) {
		r := rand.New(rand.NewPCG(seed, 23))
		n := 1 + r.IntN(12)
		d := sample(r, n, []int64{1, 2, 4, 30, api.MaxSize + 1}[seed%5])
		for _, m := range methods {
			want := clustering(n, d, m)
			run(t, n, d, m, want, api.OK)
			current := identity(n)
			last := big.NewRat(0, 1)
			labels(t, n, want, 0, current, api.OK)
			for i, x := range want {
				for k := range current {
					if current[k] == x.B {
						current[k] = x.A
					}
				}
				labels(t, n, want, i+1, current, api.OK)
				height := big.NewRat(x.Height.N, x.Height.D)
				if height.Cmp(last) < 0 {
					t.Fatalf("heights decrease: %v", want)
				}
				last = height
				if m != api.Average && !slices.Contains(d, x.Height.N) {
					t.Fatalf("the height %v is no distance of %v", x.Height, d)
				}
			}
		}
	}
}

// P23.3
func TestBetweenByDefinition(t *testing.T) {
	for seed := range uint64(300) {
		r := rand.New(rand.NewPCG(seed, 233))
		n := 2 + r.IntN(12)
		d := sample(r, n, []int64{5, 100, api.MaxSize + 1}[seed%3])
		points := r.Perm(n)
		i := 1 + r.IntN(n-1)
		j := i + 1 + r.IntN(n-i)
		for _, m := range methods {
			between(t, n, d, m, points[:i], points[i:j], frac(apart(n, d, m, points[:i], points[i:j])), api.OK)
		}
	}
}

// P23.7: the weights of a minimum spanning tree.
func TestSingleIsASpanningTree(t *testing.T) {
	for seed := range uint64(60) {
		r := rand.New(rand.NewPCG(seed, 237))
		n := 1 + r.IntN(30)
		d := sample(r, n, 40)
		var l []api.Edge
		for i := range n {
			for j := range i {
				l = append(l, edge(i, j, d[i*n+j]))
			}
		}
		forest, _ := kruskal.Forest(n, l)
		got, _ := linkage.Run(n, d, api.Single)
		for k, x := range got {
			if x.Height != (api.Frac{N: l[forest[k]].W, D: 1}) {
				t.Fatalf("Run: %v; Forest: %v", got, forest)
			}
		}
	}
}

// P23.8: multiples of the distances, and others in the same order.
func TestScaling(t *testing.T) {
	for seed := range uint64(60) {
		r := rand.New(rand.NewPCG(seed, 238))
		n := 1 + r.IntN(16)
		d := sample(r, n, 12)
		factor := 1 + r.Int64N(1000)
		multiple, other := make([]int64, n*n), make([]int64, n*n)
		for i, x := range d {
			multiple[i] = x * factor
			other[i] = x * x * x
		}
		for _, m := range methods {
			want, _ := linkage.Run(n, d, m)
			for i, x := range want {
				want[i].Height = frac(big.NewRat(x.Height.N*factor, x.Height.D))
			}
			run(t, n, multiple, m, want, api.OK)
			if m == api.Average {
				continue
			}
			got, _ := linkage.Run(n, other, m)
			for i := range want {
				got[i].Height = want[i].Height
			}
			if !slices.Equal(got, want) {
				t.Fatalf("Run of cubes: %v, expected %v", got, want)
			}
		}
	}
}

// P23.5, P23.9
func TestMatrixOfGraphs(t *testing.T) {
	for seed := range uint64(60) {
		r := rand.New(rand.NewPCG(seed, 239))
		n := 1 + r.IntN(20)
		var l []api.Edge
		for v := 1; v < n; v++ {
			for range 1 + r.IntN(2) {
				l = append(l, edge(v, r.IntN(v), r.Int64N(15)))
			}
		}
		r.Shuffle(len(l), func(i, k int) { l[i], l[k] = l[k], l[i] })
		d, e := linkage.Matrix(n, l)
		if e != api.OK || linkage.Check(n, d) != api.OK {
			t.Fatalf("Matrix: error %d, Check %d", e, linkage.Check(n, d))
		}
		tree, _ := recon.Build(n, l)
		merges, _ := dendro.Merges(tree)
		got, _ := linkage.Run(n, d, api.Single)
		view, _ := cluster.New(n, l)
		if len(got) != len(merges) {
			t.Fatalf("Run: %v; Merges: %v", got, merges)
		}
		for i := range got {
			if got[i].Height != merges[i].Height {
				t.Fatalf("Run: %v; Merges: %v", got, merges)
			}
		}
		for theta := int64(-1); theta < 16; theta++ {
			count := 0
			for count < len(got) && got[count].Height.N <= theta {
				count++
			}
			labels(t, n, got, count, view.Labels(theta), api.OK)
		}
		for i := range n {
			for j := range n {
				if height, _ := dendro.Cophenetic(tree, i, j); i != j && d[i*n+j] != height {
					t.Fatalf("Matrix: %d between %d and %d, Cophenetic %d", d[i*n+j], i, j, height)
				}
			}
		}
	}
}
