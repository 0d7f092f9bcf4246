package arena_test

import (
	"math"
	"slices"
	"testing"

	"seepage/api"
	"seepage/arena"
)

func made(t *testing.T, slots int) *arena.Arena {
	t.Helper()
	a, e := arena.New(slots)
	if a == nil || e != api.OK {
		t.Fatalf("New(%d) = %v, error %d", slots, a, e)
	}
	return a
}

func alloc(t *testing.T, a *arena.Arena, want int, we api.Errno) {
	t.Helper()
	if got, e := a.Alloc(); got != want || e != we {
		t.Fatalf("Alloc() = %d, error %d; expected %d, error %d", got, e, want, we)
	}
}

func free(t *testing.T, a *arena.Arena, i int, want api.Errno) {
	t.Helper()
	if e := a.Free(i); e != want {
		t.Fatalf("Free(%d): error %d, expected %d", i, e, want)
	}
}

func next(t *testing.T, a *arena.Arena, want int, wok bool) {
	t.Helper()
	if got, ok := a.Next(); got != want || ok != wok {
		t.Fatalf("Next() = %d, %t; expected %d, %t", got, ok, want, wok)
	}
}

// P2.1
func TestNew(t *testing.T) {
	for _, n := range []int{0, 1, 2, 63, 64, 65, api.MaxSlots - 1, api.MaxSlots} {
		a := made(t, n)
		if a.Cap() != n || a.Len() != 0 || len(a.List()) != 0 {
			t.Errorf("New(%d): Cap %d, Len %d, List %v", n, a.Cap(), a.Len(), a.List())
		}
		next(t, a, 0, n > 0)
		for _, i := range []int{-1, 0, n - 1, n} {
			if a.Used(i) || a.Times(i) != 0 {
				t.Errorf("New(%d): slot %d is used: %t, %d times", n, i, a.Used(i), a.Times(i))
			}
		}
	}
	for _, n := range []int{-1, math.MinInt, api.MaxSlots + 1, math.MaxInt} {
		if a, e := arena.New(n); a != nil || e != api.ErrArg {
			t.Errorf("New(%d) = %v, error %d", n, a, e)
		}
	}
}

// P2.2, P2.3, P2.4, P2.5: the chapter's examples.
func TestExamples(t *testing.T) {
	a := made(t, 3)
	alloc(t, a, 0, api.OK)
	alloc(t, a, 1, api.OK)
	next(t, a, 2, true)
	free(t, a, 0, api.OK)
	free(t, a, 0, api.ErrNone)
	free(t, a, 3, api.ErrRange)
	next(t, a, 0, true)
	free(t, a, 1, api.OK)
	alloc(t, a, 1, api.OK)
	alloc(t, a, 0, api.OK)
	alloc(t, a, 2, api.OK)
	alloc(t, a, 0, api.ErrFull)
	if a.Times(0) != 2 || a.Times(2) != 1 || a.Times(3) != 0 {
		t.Errorf("Times: %d, %d, %d", a.Times(0), a.Times(2), a.Times(3))
	}
	if !slices.Equal(a.List(), []int{0, 1, 2}) {
		t.Errorf("List: %v", a.List())
	}
}

// P2.2: an arena without a free slot.
func TestFull(t *testing.T) {
	a := made(t, 0)
	alloc(t, a, 0, api.ErrFull)
	next(t, a, 0, false)
	free(t, a, 0, api.ErrRange)
	a = made(t, api.MaxSlots)
	for i := range api.MaxSlots {
		alloc(t, a, i, api.OK)
	}
	alloc(t, a, 0, api.ErrFull)
	next(t, a, 0, false)
	if a.Len() != api.MaxSlots || len(a.List()) != api.MaxSlots {
		t.Errorf("Len %d, List of %d", a.Len(), len(a.List()))
	}
	free(t, a, api.MaxSlots-1, api.OK)
	alloc(t, a, api.MaxSlots-1, api.OK)
}

// P2.3: fresh and returned slots are free, and others do not exist.
func TestFreeErrors(t *testing.T) {
	a := made(t, 100)
	alloc(t, a, 0, api.OK)
	for _, i := range []int{-1, math.MinInt, 100, 101, math.MaxInt} {
		free(t, a, i, api.ErrRange)
	}
	for _, i := range []int{1, 2, 63, 64, 99} {
		free(t, a, i, api.ErrNone)
	}
	free(t, a, 0, api.OK)
	free(t, a, 0, api.ErrNone)
	next(t, a, 0, true)
	if a.Len() != 0 {
		t.Errorf("Len %d", a.Len())
	}
}

// P2.5, R4, R8
func TestCopy(t *testing.T) {
	a := made(t, 70)
	for range 66 {
		a.Alloc()
	}
	for _, i := range []int{3, 65, 0} {
		free(t, a, i, api.OK)
	}
	c := a.Copy()
	want := state(a)
	checkState(t, c, want)
	alloc(t, a, 0, api.OK)
	free(t, a, 20, api.OK)
	checkState(t, c, want)
	after := state(a)
	for _, i := range []int{0, 65, 3, 66} {
		alloc(t, c, i, api.OK)
	}
	free(t, c, 64, api.OK)
	checkState(t, a, after)
	alloc(t, a, 20, api.OK)
	alloc(t, a, 65, api.OK)
}

// R4
func TestListIsNewMemory(t *testing.T) {
	a := made(t, 3)
	a.Alloc()
	a.Alloc()
	l := a.List()
	l[0], l[1] = 7, 7
	if !slices.Equal(a.List(), []int{0, 1}) {
		t.Errorf("List: %v", a.List())
	}
}

// R2
func TestNotValid(t *testing.T) {
	for _, a := range []*arena.Arena{nil, {}} {
		alloc(t, a, 0, api.ErrNil)
		for _, i := range []int{-1, 0, 1} {
			free(t, a, i, api.ErrNil)
			if a.Used(i) || a.Times(i) != 0 {
				t.Errorf("Used %t, Times %d", a.Used(i), a.Times(i))
			}
		}
		next(t, a, 0, false)
		if a.Len() != 0 || a.Cap() != 0 || a.List() != nil || a.Copy() != nil {
			t.Errorf("Len %d, Cap %d, List %v, Copy %v", a.Len(), a.Cap(), a.List(), a.Copy())
		}
	}
}
