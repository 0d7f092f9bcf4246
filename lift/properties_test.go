package lift_test

import (
	"math/rand/v2"
	"slices"
	"testing"

	"seepage/api"
	"seepage/lift"
)

// sample returns a random forest: the parents, and for each node all its ancestors,
// from itself on.
func sample(r *rand.Rand, n int) (parent []int, way [][]int) {
	names := r.Perm(n)
	parent, way = make([]int, n), make([][]int, n)
	near := 1 + r.IntN(n)
	for i, v := range names {
		parent[v] = -1
		way[v] = []int{v}
		if i > 0 && r.IntN(8) > 0 {
			parent[v] = names[max(0, i-1-r.IntN(near))]
			way[v] = append(way[v], way[parent[v]]...)
		}
	}
	return parent, way
}

func forests(t *testing.T, f func(r *rand.Rand, y *lift.Table, way [][]int)) {
	for seed := range uint64(80) {
		r := rand.New(rand.NewPCG(seed, 19))
		parent, way := sample(r, 1+r.IntN(60))
		f(r, made(t, parent...), way)
	}
}

// P19.2 to P19.4, P19.6
func TestByDefinition(t *testing.T) {
	forests(t, func(r *rand.Rand, y *lift.Table, way [][]int) {
		for a := range way {
			depth := len(way[a]) - 1
			if y.Depth(a) != depth {
				t.Fatalf("Depth(%d) = %d, expected %d", a, y.Depth(a), depth)
			}
			root(t, y, a, way[a][depth], true)
			for k, v := range way[a] {
				up(t, y, a, k, v, true)
			}
			up(t, y, a, depth+1, 0, false)
			for b := range way {
				if y.Above(a, b) != slices.Contains(way[b], a) {
					t.Fatalf("Above(%d, %d) = %t", a, b, y.Above(a, b))
				}
				i := slices.IndexFunc(way[a], func(v int) bool { return slices.Contains(way[b], v) })
				if i < 0 {
					common(t, y, a, b, 0, false)
					dist(t, y, a, b, 0, false)
					continue
				}
				common(t, y, a, b, way[a][i], true)
				dist(t, y, a, b, i+slices.Index(way[b], way[a][i]), true)
			}
		}
	})
}

// P19.5, P19.9
func TestClimbByDefinition(t *testing.T) {
	forests(t, func(r *rand.Rand, y *lift.Table, way [][]int) {
		keys := make([]int64, len(way))
		for v := range keys {
			keys[v] = r.Int64N(12)
		}
		for v, steps := range way {
			last := 0
			for top := int64(-1); top < 13; top++ {
				k := 0
				for k+1 < len(steps) && keys[steps[k+1]] <= top {
					k++
				}
				climb(t, y, v, keys, top, steps[k], api.OK)
				climb(t, y, steps[k], keys, top, steps[k], api.OK)
				if k < last {
					t.Fatalf("Climb from %d leads %d steps up at %d, and fewer at less", v, k, top)
				}
				last = k
			}
			climb(t, y, v, keys, most, steps[len(steps)-1], api.OK)
		}
	})
}

// P19.6 to P19.8
func TestProperties(t *testing.T) {
	forests(t, func(r *rand.Rand, y *lift.Table, way [][]int) {
		n := len(way)
		for range 200 {
			a, b, c := r.IntN(n), r.IntN(n), r.IntN(n)
			j, k := r.IntN(6), r.IntN(6)
			if v, ok := y.Up(a, j); ok {
				first, ok := y.Up(v, k)
				up(t, y, a, j+k, first, ok)
			}
			ab, okAB := y.Common(a, b)
			common(t, y, b, a, ab, okAB)
			common(t, y, a, a, a, true)
			bc, okBC := y.Common(b, c)
			ac, okAC := y.Common(a, c)
			if !okAB || !okBC || !okAC {
				continue
			}
			if ab != bc && bc != ac && ab != ac {
				t.Fatalf("Common of %d, %d, %d: %d, %d, %d", a, b, c, ab, bc, ac)
			}
			x, _ := y.Dist(a, b)
			z, _ := y.Dist(b, c)
			far, _ := y.Dist(a, c)
			if far > x+z || (x == 0) != (a == b) || x != y.Depth(a)+y.Depth(b)-2*y.Depth(ab) {
				t.Fatalf("Dist of %d, %d, %d: %d, %d, %d", a, b, c, x, z, far)
			}
		}
	})
}

// P19.1: lists that are forests, or are not.
func TestRandomParents(t *testing.T) {
	was := map[api.Errno]int{}
	for seed := range uint64(3000) {
		r := rand.New(rand.NewPCG(seed, 191))
		n := 1 + r.IntN(8)
		parent := make([]int, n)
		want := api.OK
		for v := range parent {
			parent[v] = r.IntN(n+1) - 1
			if r.IntN(40) == 0 {
				parent[v] = []int{-2, n}[r.IntN(2)]
				want = api.ErrRange
			}
		}
		for v := range parent {
			if want == api.ErrRange {
				break
			}
			at := v
			for range n {
				if at >= 0 {
					at = parent[at]
				}
			}
			if at >= 0 {
				want = api.ErrLoop
			}
		}
		was[want]++
		if want == api.OK {
			made(t, parent...)
		} else {
			refused(t, parent, want)
		}
	}
	if was[api.OK] < 100 || was[api.ErrLoop] < 100 || was[api.ErrRange] < 100 {
		t.Errorf("%v", was)
	}
}
