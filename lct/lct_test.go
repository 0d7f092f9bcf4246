package lct_test

import (
	"math"
	"slices"
	"testing"

	"seepage/api"
	"seepage/lct"
)

func made(t *testing.T, n int) *lct.Forest {
	t.Helper()
	f, e := lct.New(n)
	if f == nil || e != api.OK {
		t.Fatalf("New(%d) = %v, error %d", n, f, e)
	}
	return f
}

func check(t *testing.T, call string, a, b int, got, want api.Errno) {
	t.Helper()
	if got != want {
		t.Fatalf("%s(%d, %d): error %d, expected %d", call, a, b, got, want)
	}
}

func link(t *testing.T, f *lct.Forest, a, b int, want api.Errno) {
	t.Helper()
	check(t, "Link", a, b, f.Link(a, b), want)
}

func cut(t *testing.T, f *lct.Forest, a, b int, want api.Errno) {
	t.Helper()
	check(t, "Cut", a, b, f.Cut(a, b), want)
}

func set(t *testing.T, f *lct.Forest, v int, key int64, want api.Errno) {
	t.Helper()
	check(t, "Set", v, int(key), f.Set(v, key), want)
}

func path(t *testing.T, f *lct.Forest, a, b int, want ...int) {
	t.Helper()
	got := f.Path(a, b)
	if !slices.Equal(got, want) || (got == nil) != (want == nil) {
		t.Fatalf("Path(%d, %d) = %v, expected %v", a, b, got, want)
	}
	if d := f.Dist(a, b); d != len(want)-1 {
		t.Fatalf("Dist(%d, %d) = %d, expected %d", a, b, d, len(want)-1)
	}
	if f.Connected(a, b) != (want != nil) {
		t.Fatalf("Connected(%d, %d) = %t", a, b, f.Connected(a, b))
	}
}

func first(t *testing.T, f *lct.Forest, a, b, want int, wok bool) {
	t.Helper()
	if got, ok := f.Min(a, b); got != want || ok != wok {
		t.Fatalf("Min(%d, %d) = %d, %t; expected %d, %t", a, b, got, ok, want, wok)
	}
}

func meet(t *testing.T, f *lct.Forest, a, b, c, want int, wok bool) {
	t.Helper()
	if got, ok := f.Meet(a, b, c); got != want || ok != wok {
		t.Fatalf("Meet(%d, %d, %d) = %d, %t; expected %d, %t", a, b, c, got, ok, want, wok)
	}
}

func sizes(t *testing.T, f *lct.Forest, trees int, want ...int) {
	t.Helper()
	for v, size := range want {
		if f.Size(v) != size {
			t.Fatalf("Size(%d) = %d, expected %d", v, f.Size(v), size)
		}
	}
	if f.Trees() != trees {
		t.Fatalf("Trees() = %d, expected %d", f.Trees(), trees)
	}
}

// P12.1
func TestNew(t *testing.T) {
	for _, n := range []int{0, 1, 2, 50, api.MaxSlots} {
		f := made(t, n)
		sizes(t, f, n, slices.Repeat([]int{1}, n)...)
		for v := range n {
			path(t, f, v, v, v)
			first(t, f, v, v, v, true)
			meet(t, f, v, v, v, v, true)
			if f.Key(v) != 0 || v > 0 && f.Connected(v-1, v) {
				t.Fatalf("Key(%d) = %d", v, f.Key(v))
			}
		}
	}
	for _, n := range []int{-1, math.MinInt, api.MaxSlots + 1, math.MaxInt} {
		if f, e := lct.New(n); f != nil || e != api.ErrArg {
			t.Errorf("New(%d) = %v, error %d", n, f, e)
		}
	}
}

// P12.2 to P12.6: the chapter's examples.
func TestExamples(t *testing.T) {
	f := made(t, 6)
	link(t, f, 0, 1, api.OK)
	link(t, f, 1, 2, api.OK)
	link(t, f, 1, 3, api.OK)
	link(t, f, 2, 0, api.ErrHave)
	link(t, f, 4, 4, api.ErrLoop)
	link(t, f, 5, 6, api.ErrRange)
	path(t, f, 0, 3, 0, 1, 3)
	path(t, f, 2, 3, 2, 1, 3)
	meet(t, f, 0, 2, 3, 1, true)
	sizes(t, f, 3, 4, 4, 4, 4, 1, 1)
	set(t, f, 1, 5, api.OK)
	set(t, f, 3, -1, api.OK)
	first(t, f, 0, 2, 0, true)
	first(t, f, 2, 3, 3, true)
	cut(t, f, 0, 2, api.ErrNone)
	cut(t, f, 2, 1, api.OK)
	path(t, f, 0, 2)
	sizes(t, f, 4, 3, 3, 1, 3, 1, 1)
}

// P12.2 to P12.6: numbers that are no vertices, and the order of the errors.
func TestNoVertices(t *testing.T) {
	f := made(t, 3)
	link(t, f, 0, 1, api.OK)
	for _, v := range []int{-1, 3, math.MinInt, math.MaxInt} {
		set(t, f, v, 5, api.ErrRange)
		for _, pair := range [][2]int{{v, 0}, {0, v}, {v, v}} {
			link(t, f, pair[0], pair[1], api.ErrRange)
			cut(t, f, pair[0], pair[1], api.ErrRange)
			path(t, f, pair[0], pair[1])
			first(t, f, pair[0], pair[1], 0, false)
			meet(t, f, pair[0], pair[1], 1, 0, false)
			meet(t, f, pair[0], 1, pair[1], 0, false)
			meet(t, f, 1, pair[0], pair[1], 0, false)
		}
		if f.Key(v) != 0 || f.Size(v) != 0 {
			t.Errorf("Key(%d) = %d, Size %d", v, f.Key(v), f.Size(v))
		}
	}
	sizes(t, f, 2, 2, 2, 1)
}

// P12.3: what there is, and what there is not.
func TestLinkAndCutErrors(t *testing.T) {
	f := made(t, 4)
	link(t, f, 2, 2, api.ErrLoop)
	link(t, f, 0, 1, api.OK)
	link(t, f, 0, 1, api.ErrHave)
	link(t, f, 1, 0, api.ErrHave)
	link(t, f, 1, 2, api.OK)
	link(t, f, 2, 0, api.ErrHave)
	cut(t, f, 0, 2, api.ErrNone)
	cut(t, f, 0, 3, api.ErrNone)
	cut(t, f, 3, 3, api.ErrNone)
	cut(t, f, 1, 1, api.ErrNone)
	sizes(t, f, 2, 3, 3, 3, 1)
	cut(t, f, 1, 0, api.OK)
	cut(t, f, 0, 1, api.ErrNone)
	path(t, f, 2, 1, 2, 1)
	sizes(t, f, 3, 1, 2, 2, 1)
}

// P12.5: of equal keys, the vertex with the smallest number, wherever it is.
func TestMin(t *testing.T) {
	f := made(t, 4)
	for v := range 3 {
		link(t, f, v, v+1, api.OK)
	}
	first(t, f, 3, 0, 0, true)
	first(t, f, 3, 2, 2, true)
	set(t, f, 1, math.MinInt64, api.OK)
	set(t, f, 2, math.MinInt64, api.OK)
	first(t, f, 3, 0, 1, true)
	first(t, f, 3, 2, 2, true)
	set(t, f, 1, math.MaxInt64, api.OK)
	first(t, f, 0, 1, 0, true)
	first(t, f, 1, 1, 1, true)
	if f.Key(1) != math.MaxInt64 || f.Key(2) != math.MinInt64 || f.Key(3) != 0 {
		t.Errorf("Key %d, %d, %d", f.Key(1), f.Key(2), f.Key(3))
	}
}

// P12.6, R8
func TestCopy(t *testing.T) {
	f := made(t, 4)
	link(t, f, 0, 1, api.OK)
	link(t, f, 1, 2, api.OK)
	set(t, f, 1, 3, api.OK)
	c := f.Copy()
	cut(t, f, 0, 1, api.OK)
	set(t, f, 2, -7, api.OK)
	link(t, c, 3, 0, api.OK)
	set(t, c, 1, -1, api.OK)
	sizes(t, f, 3, 1, 2, 2, 1)
	sizes(t, c, 1, 4, 4, 4, 4)
	first(t, f, 1, 2, 2, true)
	first(t, c, 2, 3, 1, true)
	if f.Key(1) != 3 || c.Key(2) != 0 {
		t.Errorf("Key %d, %d", f.Key(1), c.Key(2))
	}
}

// R4
func TestPathIsNewMemory(t *testing.T) {
	f := made(t, 2)
	link(t, f, 0, 1, api.OK)
	clear(f.Path(0, 1))
	path(t, f, 0, 1, 0, 1)
}

// R2
func TestNotValid(t *testing.T) {
	for _, f := range []*lct.Forest{nil, {}} {
		for _, v := range []int{-1, 0, 1} {
			set(t, f, v, 5, api.ErrNil)
			link(t, f, v, v, api.ErrNil)
			cut(t, f, v, 0, api.ErrNil)
			path(t, f, v, v)
			first(t, f, v, v, 0, false)
			meet(t, f, v, v, v, 0, false)
			if f.Key(v) != 0 || f.Size(v) != 0 {
				t.Errorf("Key %d, Size %d", f.Key(v), f.Size(v))
			}
		}
		if f.Trees() != 0 || f.Copy() != nil {
			t.Errorf("Trees %d, Copy %v", f.Trees(), f.Copy())
		}
	}
}
