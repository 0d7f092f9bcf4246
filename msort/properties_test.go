package msort_test

import (
	"math/rand/v2"
	"slices"
	"testing"

	"seepage/api"
	"seepage/msort"
)

// before is the order of a key as the chapter defines it.
func before(a, b api.Rec, k api.Key) bool {
	switch k {
	case api.KeyWeight:
		return a.W < b.W
	case api.KeyTime:
		return a.T < b.T
	}
	if min(a.U, a.V) != min(b.U, b.V) {
		return min(a.U, a.V) < min(b.U, b.V)
	}
	return max(a.U, a.V) < max(b.U, b.V)
}

// sample returns a list with many records that are equal in a key.
func sample(r *rand.Rand, n int) []api.Rec {
	l := make([]api.Rec, n)
	spread := int64(1 + r.IntN(12))
	for i := range l {
		l[i] = api.Rec{U: uint64(r.Int64N(spread)), V: uint64(r.Int64N(spread)), W: r.Int64N(spread) - spread/2, T: r.Int64N(spread)}
	}
	return l
}

// lists calls a test with lists of several lengths and each key.
func lists(f func(r *rand.Rand, l []api.Rec, k api.Key)) {
	for seed := range uint64(150) {
		r := rand.New(rand.NewPCG(seed, 5))
		n := int(seed) % 40
		for k := api.KeyWeight; k <= api.KeyPair; k++ {
			f(r, sample(r, n), k)
		}
	}
}

func checked[T any](t *testing.T) func(v T, e api.Errno) T {
	return func(v T, e api.Errno) T {
		t.Helper()
		if e != api.OK {
			t.Fatalf("error %d", e)
		}
		return v
	}
}

// inversions counts pairs, as the chapter defines them.
func inversions(l []api.Rec, k api.Key) int64 {
	n := int64(0)
	for j := range l {
		for i := range j {
			if before(l[j], l[i], k) {
				n++
			}
		}
	}
	return n
}

// P5.2, P5.6, P5.7
func TestSortAndPerm(t *testing.T) {
	lists(func(r *rand.Rand, l []api.Rec, k api.Key) {
		sorted := checked[[]api.Rec](t)(msort.Sort(l, k))
		perm := checked[[]int](t)(msort.Perm(l, k))
		if len(sorted) != len(l) || len(perm) != len(l) {
			t.Fatalf("%d records, %d sorted, %d indexes", len(l), len(sorted), len(perm))
		}
		once := make([]bool, len(l))
		for at, i := range perm {
			if once[i] || sorted[at] != l[i] {
				t.Fatalf("Perm %v of %v, sorted %v", perm, l, sorted)
			}
			once[i] = true
			if at == 0 {
				continue
			}
			last := perm[at-1]
			if before(l[i], l[last], k) || !before(l[last], l[i], k) && i < last {
				t.Fatalf("Perm %v of %v", perm, l)
			}
		}
		if ok := checked[bool](t)(msort.Sorted(sorted, k)); !ok {
			t.Fatalf("not sorted: %v", sorted)
		}
	})
}

// P5.1
func TestLessIsTheOrder(t *testing.T) {
	lists(func(r *rand.Rand, l []api.Rec, k api.Key) {
		for i := 1; i < len(l); i++ {
			if got := checked[bool](t)(msort.Less(l[i-1], l[i], k)); got != before(l[i-1], l[i], k) {
				t.Fatalf("Less(%v, %v, %d) = %t", l[i-1], l[i], k, got)
			}
		}
	})
}

// P5.8
func TestMergingSortedHalves(t *testing.T) {
	lists(func(r *rand.Rand, l []api.Rec, k api.Key) {
		want := checked[[]api.Rec](t)(msort.Sort(l, k))
		for at := range len(l) + 1 {
			a := checked[[]api.Rec](t)(msort.Sort(l[:at], k))
			b := checked[[]api.Rec](t)(msort.Sort(l[at:], k))
			if got := checked[[]api.Rec](t)(msort.Merge(a, b, k)); !slices.Equal(got, want) {
				t.Fatalf("Merge(%v, %v, %d) = %v, expected %v", a, b, k, got, want)
			}
			_, e := msort.Merge(l[:at], l[at:], k)
			if ordered := inversions(l[:at], k)+inversions(l[at:], k) == 0; (e == api.OK) != ordered || !ordered && e != api.ErrOrder {
				t.Fatalf("Merge(%v, %v, %d): error %d", l[:at], l[at:], k, e)
			}
		}
	})
}

// P5.4, P5.5, P5.9
func TestInversions(t *testing.T) {
	lists(func(r *rand.Rand, l []api.Rec, k api.Key) {
		n := checked[int64](t)(msort.Inversions(l, k))
		if n != inversions(l, k) {
			t.Fatalf("Inversions(%v, %d) = %d, expected %d", l, k, n, inversions(l, k))
		}
		if ok := checked[bool](t)(msort.Sorted(l, k)); ok != (n == 0) {
			t.Fatalf("Sorted(%v, %d) = %t with %d inversions", l, k, ok, n)
		}
		if len(l) < 2 {
			return
		}
		i := 1 + r.IntN(len(l)-1)
		switch {
		case before(l[i-1], l[i], k):
			n++
		case before(l[i], l[i-1], k):
			n--
		}
		l[i-1], l[i] = l[i], l[i-1]
		if got := checked[int64](t)(msort.Inversions(l, k)); got != n {
			t.Fatalf("Inversions(%v, %d) = %d, expected %d", l, k, got, n)
		}
	})
}
