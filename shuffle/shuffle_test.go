package shuffle_test

import (
	"math"
	"slices"
	"testing"

	"seepage/api"
	"seepage/shuffle"
)

func draw(t *testing.T, n int, draws []uint64, want []int, we api.Errno) {
	t.Helper()
	if got, e := shuffle.Draw(n, draws); !slices.Equal(got, want) || e != we {
		t.Fatalf("Draw(%d, %v) = %v, error %d; expected %v, error %d", n, draws, got, e, want, we)
	}
}

func inverse(t *testing.T, p, want []int, we api.Errno) {
	t.Helper()
	if got, e := shuffle.Inverse(p); !slices.Equal(got, want) || e != we {
		t.Fatalf("Inverse(%v) = %v, error %d; expected %v, error %d", p, got, e, want, we)
	}
}

func compose(t *testing.T, p, q, want []int, we api.Errno) {
	t.Helper()
	if got, e := shuffle.Compose(p, q); !slices.Equal(got, want) || e != we {
		t.Fatalf("Compose(%v, %v) = %v, error %d; expected %v, error %d", p, q, got, e, want, we)
	}
}

func draws(t *testing.T, p []int, want []uint64, we api.Errno) {
	t.Helper()
	if got, e := shuffle.Draws(p); !slices.Equal(got, want) || e != we {
		t.Fatalf("Draws(%v) = %v, error %d; expected %v, error %d", p, got, e, want, we)
	}
}

func rank(t *testing.T, p []int, want uint64, we api.Errno) {
	t.Helper()
	if got, e := shuffle.Rank(p); got != want || e != we {
		t.Fatalf("Rank(%v) = %d, error %d; expected %d, error %d", p, got, e, want, we)
	}
}

func unrank(t *testing.T, n int, rank uint64, want []int, we api.Errno) {
	t.Helper()
	if got, e := shuffle.Unrank(n, rank); !slices.Equal(got, want) || e != we {
		t.Fatalf("Unrank(%d, %d) = %v, error %d; expected %v, error %d", n, rank, got, e, want, we)
	}
}

func cycles(t *testing.T, p []int, want [][]int, we api.Errno) {
	t.Helper()
	if got, e := shuffle.Cycles(p); !slices.EqualFunc(got, want, slices.Equal) || e != we {
		t.Fatalf("Cycles(%v) = %v, error %d; expected %v, error %d", p, got, e, want, we)
	}
}

func identity(n int) []int {
	var p []int
	for i := range n {
		p = append(p, i)
	}
	return p
}

// P26.1 to P26.5: the chapter's examples.
func TestExamples(t *testing.T) {
	draw(t, 4, []uint64{2, 2, 1}, []int{2, 3, 1, 0}, api.OK)
	draws(t, []int{2, 3, 1, 0}, []uint64{2, 2, 1}, api.OK)
	draw(t, 3, []uint64{2, 0}, []int{2, 1, 0}, api.OK)
	draw(t, 3, []uint64{5, 7, 1}, []int{2, 0, 1}, api.OK)
	draw(t, 3, []uint64{2, 1}, []int{2, 0, 1}, api.OK)
	draw(t, 2, nil, nil, api.ErrDraws)
	draw(t, 1, nil, []int{0}, api.OK)
	rank(t, []int{2, 0, 1}, 4, api.OK)
	unrank(t, 3, 5, []int{2, 1, 0}, api.OK)
	unrank(t, 3, 6, nil, api.ErrRange)
	cycles(t, []int{2, 3, 1, 0, 4}, [][]int{{0, 2, 1, 3}, {4}}, api.OK)
	inverse(t, []int{2, 3, 1, 0}, []int{3, 2, 0, 1}, api.OK)
	compose(t, []int{1, 2, 0}, []int{0, 2, 1}, []int{1, 0, 2}, api.OK)
}

// P26.1
func TestDraw(t *testing.T) {
	draw(t, 0, nil, nil, api.OK)
	draw(t, 0, []uint64{3}, nil, api.OK)
	draw(t, 1, []uint64{3}, []int{0}, api.OK)
	draw(t, 3, []uint64{1}, nil, api.ErrDraws)
	draw(t, 2, []uint64{math.MaxUint64}, []int{1, 0}, api.OK)
	draw(t, 3, []uint64{1 << 63, math.MaxUint64}, []int{2, 0, 1}, api.OK)
	for _, n := range []int{-1, api.MaxDraws + 1, math.MinInt, math.MaxInt} {
		draw(t, n, nil, nil, api.ErrArg)
		draw(t, n, make([]uint64, 10), nil, api.ErrArg)
	}
	const n = api.MaxDraws
	draw(t, n, make([]uint64, n-1), identity(n), api.OK)
	draw(t, n, make([]uint64, n-2), nil, api.ErrDraws)
	draw(t, n, nil, nil, api.ErrDraws)
	// Each draw is the last one that is possible: the numbers move one place up.
	last := slices.Repeat([]uint64{0}, n-1)
	for i := range last {
		last[i] = uint64(n - 1 - i)
	}
	want := append([]int{n - 1}, identity(n-1)...)
	draw(t, n, last, want, api.OK)
	draws(t, want, last, api.OK)
}

// P26.2 to P26.5: lists that are not permutations.
func TestNoPermutations(t *testing.T) {
	for _, p := range [][]int{{1}, {-1}, {0, 0}, {1, 1}, {0, 2}, {1, 2}, {2, 1, 2}, {0, 1, -1}, {math.MinInt, 0}, {0, math.MaxInt}, identity(api.MaxDraws + 1), append(identity(20), 0), append(identity(20), 21)} {
		if e := shuffle.Check(p); e != api.ErrArg {
			t.Fatalf("Check(%v) = %d", p, e)
		}
		inverse(t, p, nil, api.ErrArg)
		draws(t, p, nil, api.ErrArg)
		rank(t, p, 0, api.ErrArg)
		cycles(t, p, nil, api.ErrArg)
		compose(t, p, identity(len(p)), nil, api.ErrArg)
		compose(t, identity(len(p)), p, nil, api.ErrArg)
		compose(t, p, p, nil, api.ErrArg)
	}
	compose(t, []int{0, 1}, []int{0}, nil, api.ErrArg)
	compose(t, []int{0}, []int{0, 1}, nil, api.ErrArg)
	compose(t, nil, []int{0}, nil, api.ErrArg)
	compose(t, []int{0}, nil, nil, api.ErrArg)
}

// P26.2 to P26.5: no elements, and as many as there can be.
func TestEnds(t *testing.T) {
	for _, n := range []int{0, 1, api.MaxDraws} {
		p := identity(n)
		if e := shuffle.Check(p); e != api.OK {
			t.Fatalf("Check: %d", e)
		}
		inverse(t, p, p, api.OK)
		compose(t, p, p, p, api.OK)
		draws(t, p, make([]uint64, max(0, n-1)), api.OK)
		back := slices.Clone(p)
		slices.Reverse(back)
		inverse(t, back, back, api.OK)
		compose(t, back, back, p, api.OK)
		if got, e := shuffle.Cycles(back); len(got) != (n+1)/2 || e != api.OK {
			t.Fatalf("Cycles: %d, error %d", len(got), e)
		}
		if n > 1 {
			turn := append(slices.Clone(p[1:]), 0)
			cycles(t, turn, [][]int{p}, api.OK)
			rank(t, p, 0, api.ErrLong)
		}
	}
	cycles(t, nil, nil, api.OK)
	rank(t, nil, 0, api.OK)
	rank(t, []int{0}, 0, api.OK)
	unrank(t, 0, 0, nil, api.OK)
	unrank(t, 1, 0, []int{0}, api.OK)
}

// P26.4: the ends of what has a rank.
func TestRank(t *testing.T) {
	const last = 2432902008176640000 - 1
	back := identity(20)
	slices.Reverse(back)
	rank(t, back, last, api.OK)
	unrank(t, 20, last, back, api.OK)
	unrank(t, 20, last+1, nil, api.ErrRange)
	unrank(t, 20, math.MaxUint64, nil, api.ErrRange)
	unrank(t, 20, 0, identity(20), api.OK)
	rank(t, identity(20), 0, api.OK)
	rank(t, identity(21), 0, api.ErrLong)
	unrank(t, 21, 0, nil, api.ErrLong)
	unrank(t, 21, math.MaxUint64, nil, api.ErrLong)
	unrank(t, api.MaxDraws, 0, nil, api.ErrLong)
	for _, n := range []int{-1, api.MaxDraws + 1, math.MinInt, math.MaxInt} {
		unrank(t, n, 0, nil, api.ErrArg)
		unrank(t, n, math.MaxUint64, nil, api.ErrArg)
	}
	unrank(t, 0, 1, nil, api.ErrRange)
	unrank(t, 1, 1, nil, api.ErrRange)
	// The first permutation that begins with 1 comes after (n-1)! others, also for
	// each other n.
	factorial := uint64(1)
	for n := 2; n <= 20; n++ {
		p := identity(n)
		p[0], p[1] = 1, 0
		rank(t, p, factorial, api.OK)
		unrank(t, n, factorial, p, api.OK)
		factorial *= uint64(n)
		unrank(t, n, factorial, nil, api.ErrRange)
	}
}

// R4
func TestMemory(t *testing.T) {
	p, q, d := []int{1, 2, 0, 9}, []int{0, 2, 1, 9}, []uint64{1, 1, 9}
	for range 2 {
		got, _ := shuffle.Draw(3, d[:2])
		clear(append(got, 8))
		got, _ = shuffle.Inverse(p[:3])
		clear(append(got, 8))
		got, _ = shuffle.Compose(p[:3], q[:3])
		clear(append(got, 8))
		list, _ := shuffle.Draws(p[:3])
		clear(append(list, 8))
		groups, _ := shuffle.Cycles(q[:3])
		_ = append(groups[0], 77)
		if !slices.EqualFunc(groups, [][]int{{0}, {1, 2}}, slices.Equal) {
			t.Errorf("Cycles: %v", groups)
		}
		rank(t, p[:3], 3, api.OK)
	}
	if !slices.Equal(p, []int{1, 2, 0, 9}) || !slices.Equal(q, []int{0, 2, 1, 9}) || !slices.Equal(d, []uint64{1, 1, 9}) {
		t.Errorf("%v, %v, %v", p, q, d)
	}
}
