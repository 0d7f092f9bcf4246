package shuffle_test

import (
	"math/rand/v2"
	"slices"
	"testing"

	"seepage/api"
	"seepage/shuffle"
)

// all returns all permutations of n elements in lexicographic order.
func all(n int) [][]int {
	var found [][]int
	var p []int
	var try func()
	try = func() {
		if len(p) == n {
			found = append(found, slices.Clone(p))
			return
		}
		for x := range n {
			if !slices.Contains(p, x) {
				p = append(p, x)
				try()
				p = p[:len(p)-1]
			}
		}
	}
	try()
	return found
}

// P26.2, P26.4, P26.6
func TestAllPermutations(t *testing.T) {
	for n := range 7 {
		l := all(n)
		for i, p := range l {
			rank(t, p, uint64(i), api.OK)
			unrank(t, n, uint64(i), p, api.OK)
			checkPermutation(t, p)
		}
		unrank(t, n, uint64(len(l)), nil, api.ErrRange)
		// Check accepts these lists and no other ones.
		if n > 4 {
			continue
		}
		list := make([]int, n)
		for k := range 1300 {
			for i := range list {
				list[i] = k%(n+2) - 1
				k /= n + 2
			}
			_, known := slices.BinarySearchFunc(l, list, slices.Compare)
			if known != (shuffle.Check(list) == api.OK) {
				t.Fatalf("Check(%v) = %d", list, shuffle.Check(list))
			}
		}
	}
}

// checkPermutation checks what holds for each permutation.
func checkPermutation(t *testing.T, p []int) {
	t.Helper()
	n := len(p)
	list, e := shuffle.Draws(p)
	if e != api.OK || len(list) != max(0, n-1) {
		t.Fatalf("Draws(%v) = %v, error %d", p, list, e)
	}
	for i, x := range list {
		if x >= uint64(n-i) {
			t.Fatalf("Draws(%v) = %v", p, list)
		}
	}
	draw(t, n, list, p, api.OK)
	q := make([]int, n)
	for i, x := range p {
		q[x] = i
	}
	inverse(t, p, q, api.OK)
	compose(t, p, q, identity(n), api.OK)
	compose(t, q, p, identity(n), api.OK)
	checkCycles(t, p)
}

func checkCycles(t *testing.T, p []int) {
	t.Helper()
	groups, e := shuffle.Cycles(p)
	if e != api.OK {
		t.Fatalf("Cycles(%v): error %d", p, e)
	}
	seen, last := 0, -1
	for _, cycle := range groups {
		if slices.Min(cycle) != cycle[0] || cycle[0] <= last {
			t.Fatalf("Cycles(%v) = %v", p, groups)
		}
		last = cycle[0]
		for i, x := range cycle {
			seen++
			if p[x] != cycle[(i+1)%len(cycle)] {
				t.Fatalf("Cycles(%v) = %v", p, groups)
			}
		}
	}
	if seen != len(p) {
		t.Fatalf("Cycles(%v) = %v", p, groups)
	}
}

// P26.1, P26.3, P26.6: all draws, and what is added to them.
func TestAllDraws(t *testing.T) {
	for n := 1; n < 6; n++ {
		given := map[string]bool{}
		list := make([]uint64, n-1)
		for count := 0; ; count++ {
			p, _ := shuffle.Draw(n, list)
			draws(t, p, list, api.OK)
			key := ""
			for _, x := range p {
				key += string(rune('0' + x))
			}
			if given[key] {
				t.Fatalf("%v is given twice", p)
			}
			given[key] = true
			more := append(slices.Clone(list), 7)
			for i := range n - 1 {
				more[i] += uint64(n-i) * uint64(count)
			}
			draw(t, n, more, p, api.OK)
			// The next list of draws below n-i.
			i := n - 2
			for i >= 0 && list[i] == uint64(n-i-1) {
				list[i] = 0
				i--
			}
			if i < 0 {
				break
			}
			list[i]++
		}
		if len(given) != len(all(n)) {
			t.Fatalf("%d permutations of %d elements", len(given), n)
		}
	}
}

// P26.1 to P26.6: random permutations, of as many elements as have a rank, and of
// more.
func TestRandomPermutations(t *testing.T) {
	for seed := range uint64(150) {
		r := rand.New(rand.NewPCG(seed, 26))
		n := 1 + r.IntN(30)
		var list []uint64
		p := identity(n)
		for i := range n - 1 {
			list = append(list, r.Uint64())
			k := i + int(list[i]%uint64(n-i))
			p[i], p[k] = p[k], p[i]
		}
		draw(t, n, list, p, api.OK)
		checkPermutation(t, p)
		if got, e := shuffle.Rank(p); n > 20 {
			rank(t, p, 0, api.ErrLong)
		} else if e == api.OK {
			unrank(t, n, got, p, api.OK)
		}
		q := r.Perm(n)
		want := make([]int, n)
		for i := range want {
			want[i] = p[q[i]]
		}
		compose(t, p, q, want, api.OK)
	}
}
