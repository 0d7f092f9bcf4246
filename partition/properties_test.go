package partition_test

import (
	"math/rand/v2"
	"slices"
	"testing"

	"seepage/api"
	"seepage/partition"
)

// all returns all canonical labels of n elements in lexicographic order, by trying
// all labels.
func all(n int) [][]int {
	var found [][]int
	labels := make([]int, n)
	var try func(i int)
	try = func(i int) {
		if i == n {
			found = append(found, slices.Clone(labels))
			return
		}
		for label := range i + 1 {
			labels[i] = label
			if labels[label] == label {
				try(i + 1)
			}
		}
	}
	try(0)
	return found
}

// P25.1, P25.6, P25.10
func TestAllPartitions(t *testing.T) {
	for n, want := range []int{1, 1, 2, 5, 15, 52, 203, 877} {
		if n == 0 {
			continue
		}
		l := all(n)
		if len(l) != want {
			t.Fatalf("%d partitions of %d elements", len(l), n)
		}
		current, ok := make([]int, n), true
		for i := range l {
			if !ok || !slices.Equal(current, l[i]) {
				t.Fatalf("Next: %v, %t; expected %v", current, ok, l[i])
			}
			current, ok = partition.Next(current)
		}
		if ok || current != nil {
			t.Fatalf("Next of %v: %v, %t", l[len(l)-1], current, ok)
		}
		groups, _ := partition.Classes(l[len(l)-1])
		if len(groups) != n {
			t.Fatalf("the last one: %v", groups)
		}
		// Check accepts these labels and no other ones.
		labels := make([]int, n)
		for k := range power(n+2, min(n, 5)) {
			for i := range min(n, 5) {
				labels[i] = k%(n+2) - 1
				k /= n + 2
			}
			for i := 5; i < n; i++ {
				labels[i] = i
			}
			if _, known := slices.BinarySearchFunc(l, labels, slices.Compare); known != (partition.Check(labels) == api.OK) {
				t.Fatalf("Check(%v) = %d", labels, partition.Check(labels))
			}
		}
	}
}

func power(base, exponent int) int {
	n := 1
	for range exponent {
		n *= base
	}
	return n
}

// P25.3 to P25.5, P25.7, P25.9: all pairs of partitions of 5 elements.
func TestLattice(t *testing.T) {
	l := all(5)
	finer := func(a, b []int) bool {
		for i := range a {
			for k := range a {
				if a[i] == a[k] && b[i] != b[k] {
					return false
				}
			}
		}
		return true
	}
	for _, a := range l {
		for _, b := range l {
			refines(t, a, b, finer(a, b), api.OK)
			// The coarsest one that refines both has the fewest classes.
			var coarsest, finest []int
			for _, c := range l {
				if finer(c, a) && finer(c, b) && (coarsest == nil || finer(coarsest, c)) {
					coarsest = c
				}
				if finer(a, c) && finer(b, c) && (finest == nil || finer(c, finest)) {
					finest = c
				}
			}
			meet(t, a, b, coarsest, api.OK)
			join(t, a, b, finest, api.OK)
			checkLattice(t, a, b, coarsest, finest)
			checkPairs(t, a, b)
		}
	}
}

func checkLattice(t *testing.T, a, b, low, high []int) {
	t.Helper()
	meet(t, b, a, low, api.OK)
	join(t, b, a, high, api.OK)
	refines(t, low, a, true, api.OK)
	refines(t, low, b, true, api.OK)
	refines(t, a, high, true, api.OK)
	refines(t, b, high, true, api.OK)
	meet(t, a, high, a, api.OK)
	join(t, a, low, a, api.OK)
	finer, _ := partition.Refines(a, b)
	if finer != slices.Equal(low, a) || finer != slices.Equal(high, b) {
		t.Fatalf("Refines(%v, %v) = %t, Meet %v, Join %v", a, b, finer, low, high)
	}
}

// checkPairs compares the numbers of pairs with the definition.
func checkPairs(t *testing.T, a, b []int) {
	t.Helper()
	var want [4]int64
	for i := range a {
		for k := range i {
			switch {
			case a[i] == a[k] && b[i] == b[k]:
				want[0]++
			case a[i] == a[k]:
				want[1]++
			case b[i] == b[k]:
				want[2]++
			default:
				want[3]++
			}
		}
	}
	pairs(t, a, b, want, api.OK)
	pairs(t, b, a, [4]int64{want[0], want[2], want[1], want[3]}, api.OK)
	n, d := want[0]+want[3], want[0]+want[1]+want[2]+want[3]
	for k := d; k > 1; k-- {
		if n%k == 0 && d%k == 0 {
			n, d = n/k, d/k
		}
	}
	index(t, a, b, n, d, api.OK)
	index(t, b, a, n, d, api.OK)
	if slices.Equal(a, b) != (n == 1 && d == 1) {
		t.Fatalf("Rand(%v, %v) = %d/%d", a, b, n, d)
	}
}

// P25.1, P25.2, P25.8, and the others with more elements.
func TestRandomLabels(t *testing.T) {
	for seed := range uint64(200) {
		r := rand.New(rand.NewPCG(seed, 25))
		n := 2 + r.IntN(40)
		labels, renamed := make([]int, n), make([]int, n)
		spread := 1 + r.IntN(n)
		names := r.Perm(10 * n)
		want := make([]int, n)
		var groups [][]int
		for i := range n {
			labels[i] = r.IntN(spread)
			renamed[i] = 5*n - names[labels[i]]
			want[i] = slices.Index(labels[:i+1], labels[i])
			k := slices.IndexFunc(groups, func(group []int) bool { return group[0] == want[i] })
			if k < 0 {
				groups = append(groups, []int{i})
			} else {
				groups[k] = append(groups[k], i)
			}
		}
		canon(t, labels, want...)
		canon(t, renamed, want...)
		canon(t, want, want...)
		classes(t, want, groups, api.OK)
		other := make([]int, n)
		for i := range other {
			other[i] = r.IntN(spread)
		}
		b := partition.Canon(other)
		low, e := partition.Meet(want, b)
		high, e2 := partition.Join(want, b)
		if e != api.OK || e2 != api.OK || partition.Check(low) != api.OK || partition.Check(high) != api.OK {
			t.Fatalf("Meet(%v, %v) = %v, Join %v", want, b, low, high)
		}
		checkLattice(t, want, b, low, high)
		checkPairs(t, want, b)
	}
}
