package msort_test

import (
	"math"
	"slices"
	"testing"

	"seepage/api"
	"seepage/msort"
)

// P5.1
func TestLess(t *testing.T) {
	rec := func(u, v uint64, w, at int64) api.Rec { return api.Rec{U: u, V: v, W: w, T: at} }
	for _, c := range []struct {
		a, b api.Rec
		k    api.Key
		want bool
		e    api.Errno
	}{
		{rec(9, 9, 1, 9), rec(1, 1, 2, 1), api.KeyWeight, true, api.OK},
		{rec(1, 1, 2, 1), rec(9, 9, 1, 9), api.KeyWeight, false, api.OK},
		{rec(1, 1, 2, 1), rec(9, 9, 2, 9), api.KeyWeight, false, api.OK},
		{rec(0, 0, math.MinInt64, 0), rec(0, 0, math.MaxInt64, 0), api.KeyWeight, true, api.OK},
		{rec(0, 0, math.MaxInt64, 0), rec(0, 0, math.MinInt64, 0), api.KeyWeight, false, api.OK},
		{rec(9, 9, 9, 1), rec(1, 1, 1, 2), api.KeyTime, true, api.OK},
		{rec(1, 1, 1, 2), rec(9, 9, 9, 1), api.KeyTime, false, api.OK},
		{rec(1, 1, 1, 2), rec(9, 9, 9, 2), api.KeyTime, false, api.OK},
		{rec(0, 0, 0, math.MinInt64), rec(0, 0, 0, math.MaxInt64), api.KeyTime, true, api.OK},
		{rec(2, 1, 0, 0), rec(1, 2, 9, 9), api.KeyPair, false, api.OK},
		{rec(1, 2, 9, 9), rec(2, 1, 0, 0), api.KeyPair, false, api.OK},
		{rec(2, 1, 0, 0), rec(3, 1, 0, 0), api.KeyPair, true, api.OK},
		{rec(3, 1, 0, 0), rec(1, 2, 0, 0), api.KeyPair, false, api.OK},
		{rec(9, 1, 0, 0), rec(2, 3, 0, 0), api.KeyPair, true, api.OK},
		{rec(3, 2, 0, 0), rec(1, 9, 0, 0), api.KeyPair, false, api.OK},
		{rec(5, 1, 0, 0), rec(6, 0, 0, 0), api.KeyPair, false, api.OK},
		{rec(0, 1, 0, 0), rec(math.MaxUint64, 0, 0, 0), api.KeyPair, true, api.OK},
		{rec(math.MaxUint64, 0, 0, 0), rec(1, 1, 0, 0), api.KeyPair, true, api.OK},
		{rec(math.MaxInt64, math.MaxUint64, 0, 0), rec(1<<63, math.MaxUint64, 0, 0), api.KeyPair, true, api.OK},
		{rec(1, 1, 1, 1), rec(2, 2, 2, 2), 0, false, api.ErrArg},
		{rec(1, 1, 1, 1), rec(2, 2, 2, 2), 4, false, api.ErrArg},
		{rec(1, 1, 1, 1), rec(2, 2, 2, 2), -1, false, api.ErrArg},
		{rec(1, 1, 1, 1), rec(2, 2, 2, 2), math.MaxInt, false, api.ErrArg},
	} {
		if got, e := msort.Less(c.a, c.b, c.k); got != c.want || e != c.e {
			t.Errorf("Less(%v, %v, %d) = %t, error %d; expected %t, error %d", c.a, c.b, c.k, got, e, c.want, c.e)
		}
	}
}

// example is the list of the chapter's examples.
func example() []api.Rec {
	return []api.Rec{{U: 1, V: 2, W: 5, T: 0}, {U: 3, V: 4, W: 2, T: 1}, {U: 5, V: 6, W: 5, T: 2}, {U: 7, V: 8, W: -1, T: 3}}
}

// P5.2 to P5.5: the chapter's examples.
func TestExamples(t *testing.T) {
	l := example()
	sorted, e := msort.Sort(l, api.KeyWeight)
	if e != api.OK || !slices.Equal(sorted, []api.Rec{l[3], l[1], l[0], l[2]}) {
		t.Errorf("Sort: %v, error %d", sorted, e)
	}
	perm, e := msort.Perm(l, api.KeyWeight)
	if e != api.OK || !slices.Equal(perm, []int{3, 1, 0, 2}) {
		t.Errorf("Perm: %v, error %d", perm, e)
	}
	n, e := msort.Inversions(l, api.KeyWeight)
	if e != api.OK || n != 4 {
		t.Errorf("Inversions: %d, error %d", n, e)
	}
	nine := api.Rec{U: 9, V: 9, W: 2, T: 0}
	merged, e := msort.Merge(sorted, []api.Rec{nine}, api.KeyWeight)
	if e != api.OK || !slices.Equal(merged, []api.Rec{l[3], l[1], nine, l[0], l[2]}) {
		t.Errorf("Merge: %v, error %d", merged, e)
	}
	merged, e = msort.Merge([]api.Rec{nine}, sorted, api.KeyWeight)
	if e != api.OK || !slices.Equal(merged, []api.Rec{l[3], nine, l[1], l[0], l[2]}) {
		t.Errorf("Merge: %v, error %d", merged, e)
	}
	for k, want := range map[api.Key]api.Errno{api.KeyWeight: api.ErrOrder, 4: api.ErrArg, api.KeyTime: api.OK} {
		if _, e := msort.Merge(l[:2], nil, k); e != want {
			t.Errorf("Merge by %d: error %d, expected %d", k, e, want)
		}
		if _, e := msort.Merge(nil, l[:2], k); e != want {
			t.Errorf("Merge by %d: error %d, expected %d", k, e, want)
		}
	}
	for k, want := range map[api.Key]bool{api.KeyWeight: false, api.KeyTime: true, api.KeyPair: true} {
		if got, e := msort.Sorted(l, k); got != want || e != api.OK {
			t.Errorf("Sorted by %d: %t, error %d", k, got, e)
		}
	}
}

// checkLists calls all functions with lists, and expects an error of each of them.
func checkLists(t *testing.T, l, rest []api.Rec, k api.Key, want api.Errno) {
	t.Helper()
	if got, e := msort.Sort(l, k); got != nil || e != want {
		t.Errorf("Sort: %d records, error %d", len(got), e)
	}
	if got, e := msort.Perm(l, k); got != nil || e != want {
		t.Errorf("Perm: %d indexes, error %d", len(got), e)
	}
	if got, e := msort.Sorted(l, k); got || e != want {
		t.Errorf("Sorted: %t, error %d", got, e)
	}
	if got, e := msort.Inversions(l, k); got != 0 || e != want {
		t.Errorf("Inversions: %d, error %d", got, e)
	}
	for _, ab := range [][2][]api.Rec{{l, nil}, {nil, l}, {l[:len(l)/2], l[len(l)/2:]}, {l, rest}} {
		if got, e := msort.Merge(ab[0], ab[1], k); got != nil || e != want {
			t.Errorf("Merge: %d records, error %d", len(got), e)
		}
	}
}

// P5.2 to P5.5: ErrArg comes before ErrLong, and this before ErrOrder.
func TestErrors(t *testing.T) {
	long := make([]api.Rec, api.MaxSlots+1)
	long[0].W = 1
	for _, k := range []api.Key{0, 4, -1, math.MinInt, math.MaxInt} {
		checkLists(t, example(), example(), k, api.ErrArg)
		checkLists(t, nil, nil, k, api.ErrArg)
		checkLists(t, long, nil, k, api.ErrArg)
	}
	for _, k := range []api.Key{api.KeyWeight, api.KeyTime, api.KeyPair} {
		checkLists(t, long, example(), k, api.ErrLong)
	}
}

// P5.2 to P5.5: lists of the greatest length.
func TestLongest(t *testing.T) {
	const n = api.MaxSlots
	l := make([]api.Rec, n)
	for i := range l {
		l[i] = api.Rec{W: int64(-i), T: int64(i % 2)}
	}
	sorted, e := msort.Sort(l, api.KeyWeight)
	if e != api.OK || len(sorted) != n || sorted[0] != l[n-1] || sorted[n-1] != l[0] {
		t.Errorf("Sort: %d records, error %d", len(sorted), e)
	}
	if got, e := msort.Inversions(l, api.KeyWeight); got != n*(n-1)/2 || e != api.OK {
		t.Errorf("Inversions: %d, error %d", got, e)
	}
	// Of each two odd and even indexes, the odd one that comes first is an inversion.
	if got, e := msort.Inversions(l, api.KeyTime); got != n/2*(n/2-1)/2 || e != api.OK {
		t.Errorf("Inversions: %d, error %d", got, e)
	}
	perm, e := msort.Perm(l, api.KeyTime)
	if e != api.OK || len(perm) != n || perm[1] != 2 || perm[n/2] != 1 || perm[n-1] != n-1 {
		t.Errorf("Perm: %d indexes, error %d", len(perm), e)
	}
	if ok, e := msort.Sorted(l, api.KeyPair); !ok || e != api.OK {
		t.Errorf("Sorted: %t, error %d", ok, e)
	}
	merged, e := msort.Merge(sorted[:n/2+1], sorted[:n/2-1], api.KeyWeight)
	if e != api.OK || len(merged) != n || merged[n-1] != sorted[n/2] {
		t.Errorf("Merge: %d records, error %d", len(merged), e)
	}
}

// R3
func TestEmptyLists(t *testing.T) {
	for _, l := range [][]api.Rec{nil, {}} {
		for _, k := range []api.Key{api.KeyWeight, api.KeyTime, api.KeyPair} {
			sorted, e := msort.Sort(l, k)
			perm, pe := msort.Perm(l, k)
			merged, me := msort.Merge(l, nil, k)
			if len(sorted) != 0 || e != api.OK || len(perm) != 0 || pe != api.OK || len(merged) != 0 || me != api.OK {
				t.Errorf("%v %d, %v %d, %v %d", sorted, e, perm, pe, merged, me)
			}
			ok, e := msort.Sorted(l, k)
			n, ie := msort.Inversions(l, k)
			if !ok || e != api.OK || n != 0 || ie != api.OK {
				t.Errorf("%t %d, %d %d", ok, e, n, ie)
			}
		}
	}
}

// R4: arguments stay as they are, also behind their ends, and results are new memory.
func TestMemory(t *testing.T) {
	for _, n := range []int{1, 2, 4} {
		whole := append(example(), api.Rec{U: 77, W: -77, T: -77})
		l := whole[:n]
		sorted, _ := msort.Sort(l, api.KeyWeight)
		msort.Perm(l, api.KeyWeight)
		msort.Inversions(l, api.KeyWeight)
		merged, _ := msort.Merge(l, nil, api.KeyTime)
		other, _ := msort.Merge(nil, l, api.KeyTime)
		for _, r := range [][]api.Rec{sorted, merged, other} {
			for i := range r {
				r[i] = api.Rec{}
			}
		}
		if want := append(example(), api.Rec{U: 77, W: -77, T: -77}); !slices.Equal(whole, want) {
			t.Errorf("%v, expected %v", whole, want)
		}
	}
}
