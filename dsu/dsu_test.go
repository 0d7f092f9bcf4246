package dsu_test

import (
	"math"
	"slices"
	"testing"

	"seepage/api"
	"seepage/dsu"
)

func made(t *testing.T, n int) *dsu.Sets {
	t.Helper()
	s, e := dsu.New(n)
	if s == nil || e != api.OK {
		t.Fatalf("New(%d) = %v, error %d", n, s, e)
	}
	return s
}

func union(t *testing.T, s *dsu.Sets, a, b int, want bool, we api.Errno) {
	t.Helper()
	if got, e := s.Union(a, b); got != want || e != we {
		t.Fatalf("Union(%d, %d) = %t, error %d; expected %t, error %d", a, b, got, e, want, we)
	}
}

func checkLeast(t *testing.T, s *dsu.Sets, a, want int, we api.Errno) {
	t.Helper()
	if got, e := s.Least(a); got != want || e != we {
		t.Fatalf("Least(%d) = %d, error %d; expected %d, error %d", a, got, e, want, we)
	}
}

// compare compares all that the sets show with the labels of their elements.
func compare(t *testing.T, s *dsu.Sets, labels []int) {
	t.Helper()
	if got := s.Labels(); !slices.Equal(got, labels) {
		t.Fatalf("Labels %v, expected %v", got, labels)
	}
	var groups [][]int
	for least := range labels {
		var group []int
		for i, label := range labels {
			if label == least {
				group = append(group, i)
			}
		}
		if group != nil {
			groups = append(groups, group)
		}
		checkLeast(t, s, least, labels[least], api.OK)
	}
	if got := s.Groups(); !slices.EqualFunc(got, groups, slices.Equal) {
		t.Fatalf("Groups %v, expected %v", got, groups)
	}
	if s.Count() != len(groups) || s.Len() != len(labels) {
		t.Fatalf("Count %d, Len %d; expected %d, %d", s.Count(), s.Len(), len(groups), len(labels))
	}
	for _, group := range groups {
		for _, i := range group {
			if s.Size(i) != len(group) {
				t.Fatalf("Size(%d) = %d, expected %d", i, s.Size(i), len(group))
			}
		}
	}
	for a := -1; a <= len(labels); a++ {
		for b := -1; b <= len(labels); b++ {
			exist := min(a, b) >= 0 && max(a, b) < len(labels)
			if got := s.Same(a, b); got != (exist && labels[a] == labels[b]) {
				t.Fatalf("Same(%d, %d) = %t", a, b, got)
			}
		}
	}
}

// P8.1
func TestNew(t *testing.T) {
	for _, n := range []int{0, 1, 2, 30} {
		alone := make([]int, n)
		for i := range alone {
			alone[i] = i
		}
		compare(t, made(t, n), alone)
	}
	if s := made(t, api.MaxSlots); s.Len() != api.MaxSlots || s.Count() != api.MaxSlots {
		t.Errorf("Len %d, Count %d", s.Len(), s.Count())
	}
	for _, n := range []int{-1, math.MinInt, api.MaxSlots + 1, math.MaxInt} {
		if s, e := dsu.New(n); s != nil || e != api.ErrArg {
			t.Errorf("New(%d) = %v, error %d", n, s, e)
		}
	}
}

// P8.2 to P8.4: the chapter's examples.
func TestExamples(t *testing.T) {
	s := made(t, 5)
	union(t, s, 3, 1, true, api.OK)
	union(t, s, 1, 3, false, api.OK)
	union(t, s, 4, 0, true, api.OK)
	union(t, s, 5, 0, false, api.ErrRange)
	checkLeast(t, s, 3, 1, api.OK)
	if s.Size(3) != 2 || !s.Same(0, 4) || s.Same(0, 1) || s.Count() != 3 {
		t.Errorf("Size %d, Same %t, %t, Count %d", s.Size(3), s.Same(0, 4), s.Same(0, 1), s.Count())
	}
	compare(t, s, []int{0, 1, 2, 1, 0})
	if g := s.Groups(); !slices.EqualFunc(g, [][]int{{0, 4}, {1, 3}, {2}}, slices.Equal) {
		t.Errorf("Groups: %v", g)
	}
}

// P8.2, P8.3: numbers that are not elements.
func TestNoElements(t *testing.T) {
	s := made(t, 3)
	union(t, s, 0, 2, true, api.OK)
	for _, i := range []int{-1, 3, math.MinInt, math.MaxInt} {
		union(t, s, i, 0, false, api.ErrRange)
		union(t, s, 0, i, false, api.ErrRange)
		union(t, s, i, i, false, api.ErrRange)
		checkLeast(t, s, i, 0, api.ErrRange)
		if s.Size(i) != 0 || s.Same(i, i) || s.Same(i, 0) || s.Same(0, i) {
			t.Errorf("Size(%d) = %d", i, s.Size(i))
		}
	}
	compare(t, s, []int{0, 1, 0})
	union(t, s, 1, 1, false, api.OK)
	union(t, made(t, 0), 0, 0, false, api.ErrRange)
}

// P8.4, R8
func TestCopy(t *testing.T) {
	s := made(t, 5)
	union(t, s, 4, 3, true, api.OK)
	c := s.Copy()
	union(t, s, 0, 3, true, api.OK)
	union(t, c, 2, 1, true, api.OK)
	compare(t, s, []int{0, 1, 2, 0, 0})
	compare(t, c, []int{0, 1, 1, 3, 3})
}

// R4: results share no memory, also not behind their ends.
func TestMemory(t *testing.T) {
	s := made(t, 5)
	union(t, s, 4, 0, true, api.OK)
	union(t, s, 3, 1, true, api.OK)
	labels, groups := s.Labels(), s.Groups()
	for i := range labels {
		labels[i] = 9
	}
	for k := range groups {
		groups[k] = append(groups[k], 77)
	}
	if !slices.EqualFunc(groups, [][]int{{0, 4, 77}, {1, 3, 77}, {2, 77}}, slices.Equal) {
		t.Errorf("Groups: %v", groups)
	}
	for k := range groups {
		clear(groups[k])
	}
	compare(t, s, []int{0, 1, 2, 1, 0})
}

// R2
func TestNotValid(t *testing.T) {
	for _, s := range []*dsu.Sets{nil, {}} {
		for _, i := range []int{-1, 0, 1} {
			union(t, s, i, 0, false, api.ErrNil)
			checkLeast(t, s, i, 0, api.ErrNil)
			if s.Same(i, i) || s.Size(i) != 0 {
				t.Errorf("Same %t, Size %d", s.Same(i, i), s.Size(i))
			}
		}
		if s.Count() != 0 || s.Len() != 0 || s.Labels() != nil || s.Groups() != nil || s.Copy() != nil {
			t.Errorf("Count %d, Len %d, Labels %v, Groups %v, Copy %v", s.Count(), s.Len(), s.Labels(), s.Groups(), s.Copy())
		}
	}
}
