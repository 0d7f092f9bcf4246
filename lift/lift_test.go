package lift_test

import (
	"math"
	"slices"
	"testing"

	"seepage/api"
	"seepage/lift"
)

const (
	least = math.MinInt64
	most  = math.MaxInt64
	limit = 2 * api.MaxVerts
)

func made(t *testing.T, parent ...int) *lift.Table {
	t.Helper()
	y, e := lift.New(parent)
	if y == nil || e != api.OK || y.Len() != len(parent) {
		t.Fatalf("New of %d nodes: error %d, Len %d", len(parent), e, y.Len())
	}
	return y
}

func refused(t *testing.T, parent []int, want api.Errno) {
	t.Helper()
	if y, e := lift.New(parent); y != nil || e != want {
		t.Errorf("New of %d nodes: error %d, expected %d", len(parent), e, want)
	}
}

func node(t *testing.T, name string, got int, ok bool, want int, wok bool) {
	t.Helper()
	if got != want || ok != wok {
		t.Fatalf("%s: %d, %t; expected %d, %t", name, got, ok, want, wok)
	}
}

func up(t *testing.T, y *lift.Table, v, k, want int, wok bool) {
	t.Helper()
	got, ok := y.Up(v, k)
	node(t, "Up", got, ok, want, wok)
}

func root(t *testing.T, y *lift.Table, v, want int, wok bool) {
	t.Helper()
	got, ok := y.Root(v)
	node(t, "Root", got, ok, want, wok)
}

func common(t *testing.T, y *lift.Table, a, b, want int, wok bool) {
	t.Helper()
	got, ok := y.Common(a, b)
	node(t, "Common", got, ok, want, wok)
}

func dist(t *testing.T, y *lift.Table, a, b, want int, wok bool) {
	t.Helper()
	got, ok := y.Dist(a, b)
	node(t, "Dist", got, ok, want, wok)
}

func climb(t *testing.T, y *lift.Table, v int, key []int64, top int64, want int, we api.Errno) {
	t.Helper()
	if got, e := y.Climb(v, key, top); got != want || e != we {
		t.Fatalf("Climb(%d, %d keys, %d): %d, error %d; expected %d, error %d", v, len(key), top, got, e, want, we)
	}
}

// P19.1 to P19.5: the chapter's examples.
func TestExamples(t *testing.T) {
	y := made(t, -1, 0, 0, 1, 1, 4, -1)
	if y.Depth(5) != 3 || y.Depth(0) != 0 || y.Depth(6) != 0 || y.Depth(2) != 1 {
		t.Errorf("Depth: %d, %d, %d, %d", y.Depth(5), y.Depth(0), y.Depth(6), y.Depth(2))
	}
	root(t, y, 5, 0, true)
	root(t, y, 0, 0, true)
	root(t, y, 6, 6, true)
	up(t, y, 5, 2, 1, true)
	up(t, y, 5, 0, 5, true)
	up(t, y, 5, 3, 0, true)
	up(t, y, 5, 4, 0, false)
	common(t, y, 3, 5, 1, true)
	common(t, y, 2, 5, 0, true)
	common(t, y, 5, 6, 0, false)
	common(t, y, 6, 6, 6, true)
	for _, c := range []struct {
		a, b int
		want bool
	}{{1, 5, true}, {5, 1, false}, {5, 5, true}, {3, 5, false}, {6, 5, false}, {0, 0, true}} {
		if got := y.Above(c.a, c.b); got != c.want {
			t.Errorf("Above(%d, %d): %t", c.a, c.b, got)
		}
	}
	dist(t, y, 3, 5, 3, true)
	dist(t, y, 2, 2, 0, true)
	dist(t, y, 2, 6, 0, false)
	climb(t, y, 5, []int64{9, 4, 0, 0, 3, 8, 0}, 4, 1, api.OK)
}

// P19.1
func TestNew(t *testing.T) {
	refused(t, []int{1, 0}, api.ErrLoop)
	refused(t, []int{0}, api.ErrLoop)
	refused(t, []int{1}, api.ErrRange)
	refused(t, []int{-1, 1}, api.ErrLoop)
	refused(t, []int{-1, 2, 3, 4, 2}, api.ErrLoop)
	refused(t, []int{-1, 0, 4, 1, 5, 2}, api.ErrLoop)
	for _, v := range []int{-2, 3, math.MinInt, math.MaxInt} {
		refused(t, []int{-1, v, 0}, api.ErrRange)
		refused(t, []int{1, 0, v}, api.ErrRange)
		refused(t, []int{v, 1, 1}, api.ErrRange)
	}
	for _, n := range []int{0, 1, limit} {
		y := made(t, slices.Repeat([]int{-1}, n)...)
		if n > 0 {
			root(t, y, n-1, n-1, true)
		}
	}
	refused(t, slices.Repeat([]int{-1}, limit+1), api.ErrArg)
	refused(t, make([]int, limit+1), api.ErrArg)
	refused(t, slices.Repeat([]int{-7}, limit+1), api.ErrArg)
	refused(t, make([]int, limit), api.ErrLoop)
}

// P19.1 to P19.5: the highest trees that there can be, and the longest loop.
func TestLongest(t *testing.T) {
	var path []int
	for v := range limit {
		path = append(path, v-1)
	}
	y := made(t, path...)
	const last = limit - 1
	if y.Depth(last) != last {
		t.Errorf("Depth %d", y.Depth(last))
	}
	root(t, y, last, 0, true)
	up(t, y, last, last, 0, true)
	up(t, y, last, last-1, 1, true)
	up(t, y, last, last+1, 0, false)
	up(t, y, last-1, 4096, last-4097, true)
	common(t, y, last, 1, 1, true)
	dist(t, y, 0, last, last, true)
	keys := make([]int64, limit)
	climb(t, y, last, keys, 0, 0, api.OK)
	keys[77] = 1
	climb(t, y, last, keys, 0, 78, api.OK)
	path[0] = last
	refused(t, path, api.ErrLoop)
	// Two paths that meet at the root.
	for v := range limit {
		path[v] = max(v-2, 0)
	}
	path[0] = -1
	y = made(t, path...)
	common(t, y, last, last-1, 0, true)
	common(t, y, last, 1, 1, true)
	dist(t, y, last, last-1, last, true)
}

// P19.2 to P19.5: numbers that are no nodes, and steps that are not possible.
func TestNoNodes(t *testing.T) {
	y := made(t, -1, 0, 1)
	keys := make([]int64, 3)
	for _, v := range []int{-1, 3, math.MinInt, math.MaxInt} {
		if y.Depth(v) != 0 || y.Above(v, 2) || y.Above(0, v) || y.Above(v, v) {
			t.Errorf("Depth(%d) = %d", v, y.Depth(v))
		}
		root(t, y, v, 0, false)
		up(t, y, v, 0, 0, false)
		up(t, y, 2, v, 0, false)
		common(t, y, v, 0, 0, false)
		common(t, y, 0, v, 0, false)
		common(t, y, v, v, 0, false)
		dist(t, y, v, 0, 0, false)
		dist(t, y, 0, v, 0, false)
		climb(t, y, v, keys, 0, 0, api.ErrRange)
		climb(t, y, v, nil, 0, 0, api.ErrRange)
	}
	climb(t, y, 2, keys[:2], 0, 0, api.ErrArg)
	climb(t, y, 2, append(keys, 0), 0, 0, api.ErrArg)
	climb(t, y, 2, nil, 0, 0, api.ErrArg)
	climb(t, made(t), 0, nil, 0, 0, api.ErrRange)
	root(t, made(t), 0, 0, false)
}

// P19.5, P19.9: keys at the ends of 64 bits, that do not grow on the way, and the
// key of the node itself.
func TestClimb(t *testing.T) {
	y := made(t, -1, 0, 1, 2)
	keys := []int64{most, least, 5, most}
	climb(t, y, 3, keys, 4, 3, api.OK)
	climb(t, y, 3, keys, 5, 1, api.OK)
	climb(t, y, 3, keys, most-1, 1, api.OK)
	climb(t, y, 3, keys, most, 0, api.OK)
	climb(t, y, 3, keys, least, 3, api.OK)
	climb(t, y, 2, keys, least, 1, api.OK)
	climb(t, y, 1, keys, least, 1, api.OK)
	climb(t, y, 0, keys, least, 0, api.OK)
	climb(t, y, 2, []int64{0, 7, 0, 0}, 5, 2, api.OK)
}

// R4
func TestMemory(t *testing.T) {
	parent := []int{-1, 0, 1, 9}
	y := made(t, parent[:3]...)
	parent[2] = 0
	up(t, y, 2, 1, 1, true)
	keys := []int64{1, 1, 1, 9}
	climb(t, y, 2, keys[:3], 1, 0, api.OK)
	if !slices.Equal(parent, []int{-1, 0, 0, 9}) || !slices.Equal(keys, []int64{1, 1, 1, 9}) {
		t.Errorf("%v, %v", parent, keys)
	}
}

// R2
func TestNotValid(t *testing.T) {
	for _, y := range []*lift.Table{nil, {}} {
		for _, v := range []int{-1, 0, 1} {
			if y.Len() != 0 || y.Depth(v) != 0 || y.Above(v, v) {
				t.Errorf("Len %d, Depth %d", y.Len(), y.Depth(v))
			}
			root(t, y, v, 0, false)
			up(t, y, v, 0, 0, false)
			common(t, y, v, v, 0, false)
			dist(t, y, v, v, 0, false)
			climb(t, y, v, nil, 0, 0, api.ErrNil)
			climb(t, y, v, []int64{1}, 0, 0, api.ErrNil)
		}
	}
}
