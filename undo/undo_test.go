package undo_test

import (
	"math"
	"slices"
	"testing"

	"seepage/api"
	"seepage/undo"
)

func made(t *testing.T, n int) *undo.Sets {
	t.Helper()
	s, e := undo.New(n)
	if s == nil || e != api.OK {
		t.Fatalf("New(%d) = %v, error %d", n, s, e)
	}
	return s
}

func union(t *testing.T, s *undo.Sets, a, b int, want bool, we api.Errno) {
	t.Helper()
	if got, e := s.Union(a, b); got != want || e != we {
		t.Fatalf("Union(%d, %d) = %t, error %d; expected %t, error %d", a, b, got, e, want, we)
	}
}

func undone(t *testing.T, s *undo.Sets, mark int, want api.Errno) {
	t.Helper()
	if e := s.Undo(mark); e != want {
		t.Fatalf("Undo(%d): error %d, expected %d", mark, e, want)
	}
}

func trial(t *testing.T, s *undo.Sets, l [][2]int, want api.Row, we api.Errno) {
	t.Helper()
	if got, e := s.Trial(l); got != want || e != we {
		t.Fatalf("Trial(%v) = %v, error %d; expected %v, error %d", l, got, e, want, we)
	}
}

// rowOf describes the sets with these labels.
func rowOf(labels []int) api.Row {
	sizes := map[int]int{}
	for _, label := range labels {
		sizes[label]++
	}
	r := api.Row{Count: len(sizes)}
	for _, size := range sizes {
		r.Largest = max(r.Largest, size)
		r.Squares += int64(size * size)
	}
	return r
}

// compare compares all that the sets show with the labels of their elements.
func compare(t *testing.T, s *undo.Sets, labels []int) {
	t.Helper()
	if got := s.Labels(); !slices.Equal(got, labels) {
		t.Fatalf("Labels %v, expected %v", got, labels)
	}
	row := rowOf(labels)
	trial(t, s, nil, row, api.OK)
	// P9.8
	if s.Count() != row.Count || s.Mark()+s.Count() != len(labels) {
		t.Fatalf("Count %d, Mark %d of %v", s.Count(), s.Mark(), labels)
	}
	sizes := make([]int, len(labels))
	for _, label := range labels {
		sizes[label]++
	}
	for a := -1; a <= len(labels); a++ {
		for b := -1; b <= len(labels); b++ {
			exist := min(a, b) >= 0 && max(a, b) < len(labels)
			if got := s.Same(a, b); got != (exist && labels[a] == labels[b]) {
				t.Fatalf("Same(%d, %d) = %t", a, b, got)
			}
		}
		want := 0
		if a >= 0 && a < len(labels) {
			want = sizes[labels[a]]
		}
		if s.Size(a) != want {
			t.Fatalf("Size(%d) = %d, expected %d", a, s.Size(a), want)
		}
	}
}

// P9.1
func TestNew(t *testing.T) {
	for _, n := range []int{0, 1, 2, 30} {
		alone := make([]int, n)
		for i := range alone {
			alone[i] = i
		}
		compare(t, made(t, n), alone)
	}
	if s := made(t, api.MaxSlots); s.Count() != api.MaxSlots {
		t.Errorf("Count %d", s.Count())
	}
	for _, n := range []int{-1, math.MinInt, api.MaxSlots + 1, math.MaxInt} {
		if s, e := undo.New(n); s != nil || e != api.ErrArg {
			t.Errorf("New(%d) = %v, error %d", n, s, e)
		}
	}
}

// P9.2 to P9.5: the chapter's examples.
func TestExamples(t *testing.T) {
	s := made(t, 5)
	union(t, s, 3, 1, true, api.OK)
	union(t, s, 1, 3, false, api.OK)
	union(t, s, 4, 3, true, api.OK)
	union(t, s, 0, 5, false, api.ErrRange)
	compare(t, s, []int{0, 1, 2, 1, 1})
	if s.Mark() != 2 || s.Count() != 3 || s.Size(4) != 3 {
		t.Errorf("Mark %d, Count %d, Size %d", s.Mark(), s.Count(), s.Size(4))
	}
	trial(t, s, [][2]int{{0, 2}, {2, 0}, {0, 4}}, api.Row{Largest: 5, Count: 1, Squares: 25}, api.OK)
	compare(t, s, []int{0, 1, 2, 1, 1})
	undone(t, s, 3, api.ErrRange)
	undone(t, s, 1, api.OK)
	compare(t, s, []int{0, 1, 2, 1, 4})
	trial(t, s, nil, api.Row{Largest: 2, Count: 4, Squares: 7}, api.OK)
}

// P9.2, P9.3, P9.5: numbers that are not elements.
func TestNoElements(t *testing.T) {
	s := made(t, 3)
	union(t, s, 0, 2, true, api.OK)
	for _, i := range []int{-1, 3, math.MinInt, math.MaxInt} {
		union(t, s, i, 0, false, api.ErrRange)
		union(t, s, 0, i, false, api.ErrRange)
		union(t, s, i, i, false, api.ErrRange)
		trial(t, s, [][2]int{{i, 0}}, api.Row{}, api.ErrRange)
		trial(t, s, [][2]int{{0, 1}, {1, 0}, {1, i}}, api.Row{}, api.ErrRange)
		if s.Size(i) != 0 || s.Same(i, i) || s.Same(i, 0) || s.Same(0, i) {
			t.Errorf("Size(%d) = %d", i, s.Size(i))
		}
	}
	compare(t, s, []int{0, 1, 0})
	trial(t, made(t, 0), nil, api.Row{}, api.OK)
	trial(t, made(t, 0), [][2]int{}, api.Row{}, api.OK)
	trial(t, made(t, 0), [][2]int{{0, 0}}, api.Row{}, api.ErrRange)
}

// P9.4: marks that are not valid change nothing; the present one and 0 are valid.
func TestUndo(t *testing.T) {
	s := made(t, 4)
	for a := range 3 {
		union(t, s, a, a+1, true, api.OK)
	}
	for _, mark := range []int{-1, 4, math.MinInt, math.MaxInt} {
		undone(t, s, mark, api.ErrRange)
	}
	undone(t, s, 3, api.OK)
	compare(t, s, []int{0, 0, 0, 0})
	undone(t, s, 0, api.OK)
	compare(t, s, []int{0, 1, 2, 3})
	undone(t, s, 0, api.OK)
	undone(t, s, 1, api.ErrRange)
	union(t, s, 3, 0, true, api.OK)
	compare(t, s, []int{0, 1, 2, 0})
}

// P9.6, R8
func TestCopy(t *testing.T) {
	s := made(t, 5)
	union(t, s, 4, 3, true, api.OK)
	union(t, s, 3, 1, true, api.OK)
	c := s.Copy()
	undone(t, s, 1, api.OK)
	union(t, s, 0, 2, true, api.OK)
	union(t, c, 0, 4, true, api.OK)
	compare(t, s, []int{0, 1, 0, 3, 3})
	compare(t, c, []int{0, 0, 2, 0, 0})
	undone(t, c, 1, api.OK)
	compare(t, c, []int{0, 1, 2, 3, 3})
	undone(t, s, 1, api.OK)
	compare(t, s, []int{0, 1, 2, 3, 3})
}

// R4
func TestMemory(t *testing.T) {
	s := made(t, 3)
	labels := s.Labels()
	labels[1] = 0
	l := [][2]int{{2, 1}, {1, 0}}
	trial(t, s, l[:1], api.Row{Largest: 2, Count: 2, Squares: 5}, api.OK)
	if !slices.Equal(l, [][2]int{{2, 1}, {1, 0}}) {
		t.Errorf("%v", l)
	}
	compare(t, s, []int{0, 1, 2})
}

// R2
func TestNotValid(t *testing.T) {
	for _, s := range []*undo.Sets{nil, {}} {
		for _, i := range []int{-1, 0, 1} {
			union(t, s, i, 0, false, api.ErrNil)
			undone(t, s, i, api.ErrNil)
			trial(t, s, [][2]int{{i, i}}, api.Row{}, api.ErrNil)
			if s.Same(i, i) || s.Size(i) != 0 {
				t.Errorf("Same %t, Size %d", s.Same(i, i), s.Size(i))
			}
		}
		trial(t, s, nil, api.Row{}, api.ErrNil)
		if s.Count() != 0 || s.Mark() != 0 || s.Labels() != nil || s.Copy() != nil {
			t.Errorf("Count %d, Mark %d, Labels %v, Copy %v", s.Count(), s.Mark(), s.Labels(), s.Copy())
		}
	}
}
