package expiry_test

import (
	"math"
	"slices"
	"testing"

	"seepage/api"
	"seepage/expiry"
)

const (
	least = math.MinInt64
	most  = math.MaxInt64
)

func made(t *testing.T, slots int) *expiry.Schedule {
	t.Helper()
	s, e := expiry.New(slots)
	if s == nil || e != api.OK {
		t.Fatalf("New(%d) = %v, error %d", slots, s, e)
	}
	return s
}

func set(t *testing.T, s *expiry.Schedule, slot int, at int64, want api.Errno) {
	t.Helper()
	if e := s.Set(slot, at); e != want {
		t.Errorf("Set(%d, %d): error %d, expected %d", slot, at, e, want)
	}
}

func drop(t *testing.T, s *expiry.Schedule, slot int, want api.Errno) {
	t.Helper()
	if e := s.Drop(slot); e != want {
		t.Errorf("Drop(%d): error %d, expected %d", slot, e, want)
	}
}

func next(t *testing.T, s *expiry.Schedule, want api.Entry, wok bool) {
	t.Helper()
	if got, ok := s.Next(); got != want || ok != wok {
		t.Errorf("Next = %v, %t; expected %v, %t", got, ok, want, wok)
	}
}

func due(t *testing.T, s *expiry.Schedule, now int64, want ...int) {
	t.Helper()
	if got := s.Due(now); !slices.Equal(got, want) {
		t.Errorf("Due(%d) = %v, expected %v", now, got, want)
	}
}

func left(t *testing.T, s *expiry.Schedule, slot int, now, want int64, we api.Errno) {
	t.Helper()
	if got, e := s.Left(slot, now); got != want || e != we {
		t.Errorf("Left(%d, %d) = %d, error %d; expected %d, error %d", slot, now, got, e, want, we)
	}
}

func length(t *testing.T, s *expiry.Schedule, want int) {
	t.Helper()
	if got := s.Len(); got != want {
		t.Errorf("Len = %d, expected %d", got, want)
	}
}

// P35.2 to P35.5: the chapter's examples.
func TestExamples(t *testing.T) {
	s := made(t, 4)
	set(t, s, 2, 10, api.OK)
	set(t, s, 0, 10, api.OK)
	set(t, s, 1, -5, api.OK)
	set(t, s, 3, 40, api.OK)
	set(t, s, 4, 1, api.ErrRange)
	next(t, s, api.Entry{Index: 1, Key: -5}, true)
	left(t, s, 3, 15, 25, api.OK)
	left(t, s, 1, 0, -5, api.OK)
	left(t, s, 1, most, 0, api.ErrOver)
	due(t, s, 10, 1, 0, 2)
	set(t, s, 3, 20, api.OK)
	drop(t, s, 0, api.ErrNone)
	length(t, s, 1)
	due(t, s, 19)
	due(t, s, 20, 3)
	next(t, s, api.Entry{}, false)
}

// P35.1
func TestNew(t *testing.T) {
	for _, slots := range []int{-1, api.MaxSlots + 1, math.MinInt, math.MaxInt} {
		if s, e := expiry.New(slots); s != nil || e != api.ErrArg {
			t.Errorf("New(%d) = %v, error %d", slots, s, e)
		}
	}
	s := made(t, 0)
	set(t, s, 0, 1, api.ErrRange)
	due(t, s, most)
	s = made(t, api.MaxSlots)
	length(t, s, 0)
	next(t, s, api.Entry{}, false)
	set(t, s, api.MaxSlots-1, 1, api.OK)
	set(t, s, api.MaxSlots, 1, api.ErrRange)
	due(t, s, 1, api.MaxSlots-1)
}

// P35.2, P35.5: slots that there are not, or that are not scheduled.
func TestErrors(t *testing.T) {
	s := made(t, 3)
	set(t, s, 1, 5, api.OK)
	for _, slot := range []int{-1, 3, math.MinInt, math.MaxInt} {
		set(t, s, slot, 5, api.ErrRange)
		drop(t, s, slot, api.ErrRange)
		left(t, s, slot, 0, 0, api.ErrRange)
	}
	for _, slot := range []int{0, 2} {
		drop(t, s, slot, api.ErrNone)
		left(t, s, slot, 0, 0, api.ErrNone)
		left(t, s, slot, least, 0, api.ErrNone)
	}
	length(t, s, 1)
	drop(t, s, 1, api.OK)
	drop(t, s, 1, api.ErrNone)
	left(t, s, 1, 5, 0, api.ErrNone)
	length(t, s, 0)
}

// P35.2: a slot that is scheduled again, for an earlier or for a later time.
func TestAgain(t *testing.T) {
	s := made(t, 3)
	set(t, s, 0, 10, api.OK)
	set(t, s, 1, 20, api.OK)
	set(t, s, 2, 30, api.OK)
	set(t, s, 0, 25, api.OK)
	set(t, s, 2, 5, api.OK)
	length(t, s, 3)
	next(t, s, api.Entry{Index: 2, Key: 5}, true)
	due(t, s, 24, 2, 1)
	due(t, s, 24)
	left(t, s, 0, 24, 1, api.OK)
	left(t, s, 1, 24, 0, api.ErrNone)
	due(t, s, 25, 0)
	set(t, s, 1, 1, api.OK)
	due(t, s, 0)
	due(t, s, 1, 1)
}

// P35.3 to P35.5: times at the ends of the range.
func TestEnds(t *testing.T) {
	s := made(t, 4)
	set(t, s, 3, least, api.OK)
	set(t, s, 2, most, api.OK)
	set(t, s, 1, 0, api.OK)
	set(t, s, 0, most, api.OK)
	next(t, s, api.Entry{Index: 3, Key: least}, true)
	left(t, s, 3, least, 0, api.OK)
	left(t, s, 3, 0, least, api.OK)
	left(t, s, 3, 1, 0, api.ErrOver)
	left(t, s, 2, 0, most, api.OK)
	left(t, s, 2, -1, 0, api.ErrOver)
	left(t, s, 1, -most, most, api.OK)
	left(t, s, 1, least, 0, api.ErrOver)
	left(t, s, 1, most, -most, api.OK)
	due(t, s, least, 3)
	due(t, s, least)
	due(t, s, most-1, 1)
	due(t, s, most, 0, 2)
	length(t, s, 0)
}

// P35.6, R8
func TestCopy(t *testing.T) {
	a := made(t, 3)
	set(t, a, 0, 1, api.OK)
	set(t, a, 1, 2, api.OK)
	b := a.Copy()
	set(t, a, 0, 9, api.OK)
	set(t, b, 2, 0, api.OK)
	drop(t, b, 1, api.OK)
	set(t, b, 3, 0, api.ErrRange)
	length(t, a, 2)
	due(t, b, 5, 2, 0)
	due(t, a, 5, 1)
	due(t, a, 9, 0)
}

// R2
func TestNotValid(t *testing.T) {
	for _, s := range []*expiry.Schedule{nil, {}} {
		for _, slot := range []int{-1, 0, 1} {
			set(t, s, slot, 1, api.ErrNil)
			drop(t, s, slot, api.ErrNil)
			left(t, s, slot, 1, 0, api.ErrNil)
		}
		next(t, s, api.Entry{}, false)
		due(t, s, most)
		length(t, s, 0)
		if s.Copy() != nil {
			t.Errorf("Copy = %v", s.Copy())
		}
	}
}
