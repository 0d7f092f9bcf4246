package partition_test

import (
	"math"
	"slices"
	"testing"

	"seepage/api"
	"seepage/partition"
)

func canon(t *testing.T, labels []int, want ...int) {
	t.Helper()
	if got := partition.Canon(labels); !slices.Equal(got, want) || partition.Check(got) != api.OK {
		t.Fatalf("Canon(%v) = %v, expected %v", labels, got, want)
	}
}

func classes(t *testing.T, labels []int, want [][]int, we api.Errno) {
	t.Helper()
	if got, e := partition.Classes(labels); !slices.EqualFunc(got, want, slices.Equal) || e != we {
		t.Fatalf("Classes(%v) = %v, error %d; expected %v, error %d", labels, got, e, want, we)
	}
}

func meet(t *testing.T, a, b, want []int, we api.Errno) {
	t.Helper()
	if got, e := partition.Meet(a, b); !slices.Equal(got, want) || e != we {
		t.Fatalf("Meet(%v, %v) = %v, error %d; expected %v, error %d", a, b, got, e, want, we)
	}
}

func join(t *testing.T, a, b, want []int, we api.Errno) {
	t.Helper()
	if got, e := partition.Join(a, b); !slices.Equal(got, want) || e != we {
		t.Fatalf("Join(%v, %v) = %v, error %d; expected %v, error %d", a, b, got, e, want, we)
	}
}

func refines(t *testing.T, a, b []int, want bool, we api.Errno) {
	t.Helper()
	if got, e := partition.Refines(a, b); got != want || e != we {
		t.Fatalf("Refines(%v, %v) = %t, error %d; expected %t, error %d", a, b, got, e, want, we)
	}
}

func pairs(t *testing.T, a, b []int, want [4]int64, we api.Errno) {
	t.Helper()
	if got, e := partition.Pairs(a, b); got != want || e != we {
		t.Fatalf("Pairs(%v, %v) = %v, error %d; expected %v, error %d", a, b, got, e, want, we)
	}
}

func index(t *testing.T, a, b []int, n, d int64, we api.Errno) {
	t.Helper()
	if got, e := partition.Rand(a, b); got != (api.Frac{N: n, D: d}) || e != we {
		t.Fatalf("Rand(%v, %v) = %v, error %d; expected %d/%d, error %d", a, b, got, e, n, d, we)
	}
}

func next(t *testing.T, labels, want []int, wok bool) {
	t.Helper()
	if got, ok := partition.Next(labels); !slices.Equal(got, want) || ok != wok {
		t.Fatalf("Next(%v) = %v, %t; expected %v, %t", labels, got, ok, want, wok)
	}
}

// P25.1 to P25.6: the chapter's examples.
func TestExamples(t *testing.T) {
	canon(t, []int{7, -1, 7, 3, -1}, 0, 1, 0, 3, 1)
	classes(t, []int{0, 1, 0, 3, 1}, [][]int{{0, 2}, {1, 4}, {3}}, api.OK)
	a, b := []int{0, 0, 0, 3, 3}, []int{0, 1, 0, 1, 4}
	meet(t, a, b, []int{0, 1, 0, 3, 4}, api.OK)
	join(t, a, b, []int{0, 0, 0, 0, 0}, api.OK)
	pairs(t, a, b, [4]int64{1, 3, 1, 5}, api.OK)
	index(t, a, b, 3, 5, api.OK)
	refines(t, []int{0, 1, 0, 3, 4}, a, true, api.OK)
	refines(t, a, []int{0, 1, 0, 3, 4}, false, api.OK)
	refines(t, a, b, false, api.OK)
	refines(t, a, a, true, api.OK)
	if e := partition.Check([]int{0, 0, 1}); e != api.ErrArg {
		t.Errorf("Check: %d", e)
	}
	next(t, []int{0, 1, 1}, []int{0, 1, 2}, true)
	next(t, []int{0, 1, 2}, nil, false)
	next(t, []int{0, 0, 2, 2}, []int{0, 0, 2, 3}, true)
	next(t, []int{0, 0, 2, 3}, []int{0, 1, 0, 0}, true)
}

// P25.1 to P25.6: no elements, and one.
func TestSmall(t *testing.T) {
	canon(t, nil)
	classes(t, nil, nil, api.OK)
	meet(t, nil, []int{}, nil, api.OK)
	join(t, []int{}, nil, nil, api.OK)
	refines(t, nil, nil, true, api.OK)
	pairs(t, nil, nil, [4]int64{}, api.OK)
	index(t, nil, nil, 1, 1, api.OK)
	next(t, nil, nil, false)
	one := []int{0}
	canon(t, []int{math.MinInt}, 0)
	classes(t, one, [][]int{{0}}, api.OK)
	pairs(t, one, one, [4]int64{}, api.OK)
	index(t, one, one, 1, 1, api.OK)
	next(t, one, nil, false)
	index(t, []int{0, 0}, []int{0, 1}, 0, 1, api.OK)
	index(t, []int{0, 0}, []int{0, 0}, 1, 1, api.OK)
	index(t, []int{0, 1}, []int{0, 1}, 1, 1, api.OK)
	canon(t, []int{math.MaxInt, math.MinInt, math.MaxInt, 0, 2}, 0, 1, 0, 3, 4)
}

// P25.1 to P25.6: labels that are not canonical, and lists of different lengths.
func TestErrors(t *testing.T) {
	good := []int{0, 1, 0}
	for _, bad := range [][]int{{1, 1, 1}, {0, 2, 2}, {0, 0, 1}, {0, 1, 3}, {0, 1, -1}, {-1, 1, 0}, {0, 1, math.MaxInt}, {math.MinInt, 1, 2}, {2, 1, 2}, {0, 2, 0}, {3, 3, 3}} {
		if e := partition.Check(bad); e != api.ErrArg {
			t.Errorf("Check(%v) = %d", bad, e)
		}
		classes(t, bad, nil, api.ErrArg)
		next(t, bad, nil, false)
		for _, c := range [][2][]int{{bad, good}, {good, bad}, {bad, bad}, {bad, nil}} {
			meet(t, c[0], c[1], nil, api.ErrArg)
			join(t, c[0], c[1], nil, api.ErrArg)
			refines(t, c[0], c[1], false, api.ErrArg)
			pairs(t, c[0], c[1], [4]int64{}, api.ErrArg)
			index(t, c[0], c[1], 0, 0, api.ErrArg)
		}
	}
	for _, other := range [][]int{nil, {0}, {0, 1}, {0, 1, 0, 3}} {
		for _, c := range [][2][]int{{good, other}, {other, good}} {
			meet(t, c[0], c[1], nil, api.ErrArg)
			join(t, c[0], c[1], nil, api.ErrArg)
			refines(t, c[0], c[1], false, api.ErrArg)
			pairs(t, c[0], c[1], [4]int64{}, api.ErrArg)
			index(t, c[0], c[1], 0, 0, api.ErrArg)
		}
	}
	for _, l := range [][]int{nil, {0}, {0, 0, 0}, {0, 1, 2}, {0, 1, 1, 0}} {
		if e := partition.Check(l); e != api.OK {
			t.Errorf("Check(%v) = %d", l, e)
		}
	}
}

// P1, P25.1 to P25.6: more elements than a graph can have vertices.
func TestMany(t *testing.T) {
	const n = 100000
	a, b, single, whole := make([]int, n), make([]int, n), make([]int, n), make([]int, n)
	for i := range n {
		a[i] = i - i%2
		b[i] = max(0, i-1+i%2)
		single[i] = i
	}
	join(t, a, b, whole, api.OK)
	join(t, b, a, whole, api.OK)
	meet(t, a, b, single, api.OK)
	pairs(t, whole, single, [4]int64{0, n * (n - 1) / 2, 0, 0}, api.OK)
	index(t, whole, a, 1, n-1, api.OK)
	next(t, whole, append(slices.Clone(whole[:n-1]), n-1), true)
	next(t, single, nil, false)
}

// R4
func TestMemory(t *testing.T) {
	a, b := []int{0, 1, 0, 9}, []int{0, 0, 2, 9}
	for range 2 {
		got, _ := partition.Meet(a[:3], b[:3])
		clear(append(got, 8))
		got, _ = partition.Join(a[:3], b[:3])
		clear(append(got, 8))
		got, _ = partition.Next(a[:3])
		clear(append(got, 8))
		clear(partition.Canon(b[:3]))
		lists, _ := partition.Classes(a[:3])
		_ = append(lists[0], 77)
		if !slices.Equal(lists[1], []int{1}) {
			t.Errorf("Classes: %v", lists)
		}
		refines(t, a[:3], b[:3], false, api.OK)
		pairs(t, a[:3], b[:3], [4]int64{0, 1, 1, 1}, api.OK)
	}
	if !slices.Equal(a, []int{0, 1, 0, 9}) || !slices.Equal(b, []int{0, 0, 2, 9}) {
		t.Errorf("%v, %v", a, b)
	}
}
