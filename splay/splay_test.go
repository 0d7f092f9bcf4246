package splay_test

import (
	"math"
	"slices"
	"testing"

	"seepage/api"
	"seepage/splay"
)

const (
	least = math.MinInt64
	most  = math.MaxInt64
)

func made(t *testing.T, n int) *splay.Seqs {
	t.Helper()
	s, e := splay.New(n)
	if s == nil || e != api.OK {
		t.Fatalf("New(%d) = %v, error %d", n, s, e)
	}
	return s
}

// joined returns n nodes in one sequence, 0 first.
func joined(t *testing.T, n int) *splay.Seqs {
	t.Helper()
	s := made(t, n)
	for x := 1; x < n; x++ {
		check(t, "Join", s.Join(x-1, x), api.OK)
	}
	return s
}

func check(t *testing.T, call string, got, want api.Errno) {
	t.Helper()
	if got != want {
		t.Fatalf("%s: error %d, expected %d", call, got, want)
	}
}

func list(t *testing.T, s *splay.Seqs, x int, want ...int) {
	t.Helper()
	if got := s.List(x); !slices.Equal(got, want) {
		t.Fatalf("List(%d) = %v, expected %v", x, got, want)
	}
}

func at(t *testing.T, s *splay.Seqs, x, k, want int, wok bool) {
	t.Helper()
	if got, ok := s.At(x, k); got != want || ok != wok {
		t.Fatalf("At(%d, %d) = %d, %t; expected %d, %t", x, k, got, ok, want, wok)
	}
}

func minimum(t *testing.T, s *splay.Seqs, x, want int, wok bool) {
	t.Helper()
	if got, ok := s.Min(x); got != want || ok != wok {
		t.Fatalf("Min(%d) = %d, %t; expected %d, %t", x, got, ok, want, wok)
	}
}

func sum(t *testing.T, s *splay.Seqs, x int, want int64, we api.Errno) {
	t.Helper()
	if got, e := s.Sum(x); got != want || e != we {
		t.Fatalf("Sum(%d) = %d, error %d; expected %d, error %d", x, got, e, want, we)
	}
}

// P11.1
func TestNew(t *testing.T) {
	for _, n := range []int{0, 1, 2, api.MaxSlots} {
		s := made(t, n)
		for x := range n {
			list(t, s, x, x)
			at(t, s, x, 0, x, true)
			sum(t, s, x, 0, api.OK)
			minimum(t, s, x, x, true)
			if s.Value(x) != 0 || s.Pos(x) != 0 || s.Len(x) != 1 || !s.Same(x, x) || x > 0 && s.Same(x-1, x) {
				t.Fatalf("Value %d, Pos %d, Len %d of %d", s.Value(x), s.Pos(x), s.Len(x), x)
			}
		}
		check(t, "Set", s.Set(n, 1), api.ErrRange)
	}
	for _, n := range []int{-1, math.MinInt, api.MaxSlots + 1, math.MaxInt} {
		if s, e := splay.New(n); s != nil || e != api.ErrArg {
			t.Errorf("New(%d) = %v, error %d", n, s, e)
		}
	}
}

// P11.2 to P11.8: the chapter's examples.
func TestExamples(t *testing.T) {
	s := made(t, 5)
	check(t, "Join", s.Join(0, 1), api.OK)
	check(t, "Join", s.Join(1, 2), api.OK)
	check(t, "Join", s.Join(3, 4), api.OK)
	list(t, s, 1, 0, 1, 2)
	list(t, s, 3, 3, 4)
	check(t, "Join", s.Join(2, 3), api.OK)
	list(t, s, 4, 0, 1, 2, 3, 4)
	at(t, s, 0, 4, 4, true)
	at(t, s, 0, 5, 0, false)
	if s.Pos(3) != 3 || s.Len(1) != 5 {
		t.Errorf("Pos %d, Len %d", s.Pos(3), s.Len(1))
	}
	check(t, "Reverse", s.Reverse(2), api.OK)
	check(t, "Split", s.Split(1), api.OK)
	list(t, s, 1, 1, 0)
	list(t, s, 3, 4, 3, 2)
	check(t, "Set", s.Set(4, 7), api.OK)
	check(t, "Set", s.Set(3, -2), api.OK)
	check(t, "Set", s.Set(2, -2), api.OK)
	minimum(t, s, 4, 2, true)
	sum(t, s, 4, 3, api.OK)
	check(t, "Join", s.Join(0, 1), api.ErrHave)
	check(t, "Join", s.Join(0, 9), api.ErrRange)
}

// P11.2 to P11.8: numbers that are not nodes.
func TestNoNodes(t *testing.T) {
	s := joined(t, 3)
	for _, x := range []int{-1, 3, math.MinInt, math.MaxInt} {
		check(t, "Set", s.Set(x, 5), api.ErrRange)
		check(t, "Join", s.Join(x, 0), api.ErrRange)
		check(t, "Join", s.Join(0, x), api.ErrRange)
		check(t, "Join", s.Join(x, x), api.ErrRange)
		check(t, "Split", s.Split(x), api.ErrRange)
		check(t, "Reverse", s.Reverse(x), api.ErrRange)
		sum(t, s, x, 0, api.ErrRange)
		minimum(t, s, x, 0, false)
		at(t, s, x, 0, 0, false)
		at(t, s, 0, x, 0, false)
		if s.Value(x) != 0 || s.Same(x, 0) || s.Same(0, x) || s.Same(x, x) || s.Pos(x) != 0 || s.Len(x) != 0 || len(s.List(x)) != 0 {
			t.Errorf("Value %d, Pos %d, Len %d, List %v of %d", s.Value(x), s.Pos(x), s.Len(x), s.List(x), x)
		}
	}
	list(t, s, 1, 0, 1, 2)
}

// P11.3, P11.4: a sequence is not joined with itself; splitting before the first node changes nothing.
func TestNothingToDo(t *testing.T) {
	s := joined(t, 3)
	for x := range 3 {
		for y := range 3 {
			check(t, "Join", s.Join(x, y), api.ErrHave)
		}
	}
	check(t, "Split", s.Split(0), api.OK)
	list(t, s, 2, 0, 1, 2)
	check(t, "Split", s.Split(2), api.OK)
	check(t, "Split", s.Split(2), api.OK)
	list(t, s, 2, 2)
	list(t, s, 1, 0, 1)
}

// P11.3: it is the sequences that are joined, whatever node of them is named.
func TestJoinOfInnerNodes(t *testing.T) {
	for x := range 3 {
		for y := 3; y < 6; y++ {
			s := joined(t, 6)
			check(t, "Split", s.Split(3), api.OK)
			check(t, "Join", s.Join(y, x), api.OK)
			list(t, s, x, 3, 4, 5, 0, 1, 2)
		}
	}
}

// P11.8: sums at the ends of 64 bits, and far beyond them on the way.
func TestSums(t *testing.T) {
	for _, c := range []struct {
		l    []int64
		want int64
		e    api.Errno
	}{
		{[]int64{most}, most, api.OK}, {[]int64{least}, least, api.OK}, {[]int64{most, 1, -1}, most, api.OK},
		{[]int64{most, 1}, 0, api.ErrOver}, {[]int64{least, -1}, 0, api.ErrOver}, {[]int64{least, -1, 1}, least, api.OK},
		{[]int64{most, most, least, least}, -2, api.OK}, {[]int64{least, least, most, most}, -2, api.OK},
		{[]int64{most, most, 2}, 0, api.ErrOver}, {[]int64{least, least}, 0, api.ErrOver}, {[]int64{least, most}, -1, api.OK},
		{[]int64{math.MaxUint32, 1}, 1 << 32, api.OK}, {[]int64{-1, -1, -1}, -3, api.OK}, {[]int64{1 << 62, 1 << 62}, 0, api.ErrOver},
		{[]int64{1 << 62, 1<<62 - 1}, most, api.OK}, {[]int64{-1 << 62, -1 << 62}, least, api.OK},
	} {
		s := joined(t, len(c.l))
		for x, v := range c.l {
			check(t, "Set", s.Set(x, v), api.OK)
		}
		for x := range c.l {
			sum(t, s, x, c.want, c.e)
		}
	}
	const n = api.MaxSlots
	s := joined(t, n)
	for x := range n {
		s.Set(x, []int64{most, least}[x*2/n])
	}
	sum(t, s, 0, -n/2, api.OK)
	check(t, "Split", s.Split(n/2), api.OK)
	sum(t, s, 0, 0, api.ErrOver)
	sum(t, s, n-1, 0, api.ErrOver)
}

// P11.7: of equal values, the smallest node, wherever it is.
func TestMin(t *testing.T) {
	s := joined(t, 4)
	minimum(t, s, 3, 0, true)
	check(t, "Set", s.Set(0, 1), api.OK)
	minimum(t, s, 3, 1, true)
	check(t, "Reverse", s.Reverse(0), api.OK)
	minimum(t, s, 0, 1, true)
	check(t, "Set", s.Set(3, least), api.OK)
	minimum(t, s, 0, 3, true)
	check(t, "Set", s.Set(2, least), api.OK)
	minimum(t, s, 0, 2, true)
	check(t, "Set", s.Set(2, most), api.OK)
	check(t, "Set", s.Set(3, most), api.OK)
	check(t, "Split", s.Split(1), api.OK)
	minimum(t, s, 3, 2, true)
}

// P11.9, R8
func TestCopy(t *testing.T) {
	s := joined(t, 4)
	check(t, "Reverse", s.Reverse(1), api.OK)
	c := s.Copy()
	check(t, "Split", s.Split(1), api.OK)
	check(t, "Set", s.Set(0, 4), api.OK)
	check(t, "Reverse", c.Reverse(0), api.OK)
	check(t, "Set", c.Set(3, -1), api.OK)
	list(t, s, 0, 1, 0)
	list(t, s, 3, 3, 2)
	list(t, c, 0, 0, 1, 2, 3)
	if s.Value(3) != 0 || c.Value(0) != 0 {
		t.Errorf("Value %d, %d", s.Value(3), c.Value(0))
	}
}

// R4
func TestListIsNewMemory(t *testing.T) {
	s := joined(t, 3)
	clear(s.List(0))
	list(t, s, 0, 0, 1, 2)
}

// R2
func TestNotValid(t *testing.T) {
	for _, s := range []*splay.Seqs{nil, {}} {
		for _, x := range []int{-1, 0, 1} {
			check(t, "Set", s.Set(x, 5), api.ErrNil)
			check(t, "Join", s.Join(x, 0), api.ErrNil)
			check(t, "Split", s.Split(x), api.ErrNil)
			check(t, "Reverse", s.Reverse(x), api.ErrNil)
			sum(t, s, x, 0, api.ErrNil)
			minimum(t, s, x, 0, false)
			at(t, s, x, 0, 0, false)
			if s.Value(x) != 0 || s.Same(x, x) || s.Pos(x) != 0 || s.Len(x) != 0 || s.List(x) != nil {
				t.Errorf("Value %d, Pos %d, Len %d, List %v", s.Value(x), s.Pos(x), s.Len(x), s.List(x))
			}
		}
		if s.Copy() != nil {
			t.Errorf("Copy %v", s.Copy())
		}
	}
}
