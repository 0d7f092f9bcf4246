package intern_test

import (
	"math"
	"slices"
	"testing"

	"seepage/api"
	"seepage/intern"
)

func made(t *testing.T, slots int) *intern.Table {
	t.Helper()
	a, e := intern.New(slots)
	if a == nil || e != api.OK {
		t.Fatalf("New(%d) = %v, error %d", slots, a, e)
	}
	return a
}

func put(t *testing.T, a *intern.Table, id uint64, want int, added bool, we api.Errno) {
	t.Helper()
	if got, ok, e := a.Put(id); got != want || ok != added || e != we {
		t.Fatalf("Put(%d) = %d, %t, error %d; expected %d, %t, error %d", id, got, ok, e, want, added, we)
	}
}

func del(t *testing.T, a *intern.Table, id uint64, want api.Errno) {
	t.Helper()
	if e := a.Del(id); e != want {
		t.Fatalf("Del(%d): error %d, expected %d", id, e, want)
	}
}

func get(t *testing.T, a *intern.Table, id uint64, want int, wok bool) {
	t.Helper()
	if got, ok := a.Get(id); got != want || ok != wok {
		t.Fatalf("Get(%d) = %d, %t; expected %d, %t", id, got, ok, want, wok)
	}
}

func checkID(t *testing.T, a *intern.Table, index int, want uint64, wok bool) {
	t.Helper()
	if got, ok := a.ID(index); got != want || ok != wok {
		t.Fatalf("ID(%d) = %d, %t; expected %d, %t", index, got, ok, want, wok)
	}
}

// P3.1
func TestNew(t *testing.T) {
	for _, n := range []int{0, 1, 2, 3, 64, 1000, api.MaxSlots} {
		a := made(t, n)
		if a.Len() != 0 || len(a.List()) != 0 {
			t.Errorf("New(%d): Len %d, List %v", n, a.Len(), a.List())
		}
		for _, i := range []int{-1, 0, n} {
			get(t, a, uint64(i), 0, false)
			checkID(t, a, i, 0, false)
			del(t, a, uint64(i), api.ErrNone)
		}
	}
	for _, n := range []int{-1, math.MinInt, api.MaxSlots + 1, math.MaxInt} {
		if a, e := intern.New(n); a != nil || e != api.ErrArg {
			t.Errorf("New(%d) = %v, error %d", n, a, e)
		}
	}
}

// P3.2 to P3.5: the chapter's examples.
func TestExamples(t *testing.T) {
	a := made(t, 3)
	put(t, a, 70, 0, true, api.OK)
	put(t, a, 80, 1, true, api.OK)
	put(t, a, 70, 0, false, api.OK)
	del(t, a, 70, api.OK)
	put(t, a, 90, 0, true, api.OK)
	put(t, a, 60, 2, true, api.OK)
	put(t, a, 50, 0, false, api.ErrFull)
	if !slices.Equal(a.List(), []uint64{60, 80, 90}) {
		t.Errorf("List: %v", a.List())
	}
	del(t, a, 80, api.OK)
	del(t, a, 60, api.OK)
	put(t, a, 1, 2, true, api.OK)
	put(t, a, 2, 1, true, api.OK)
	get(t, a, 80, 0, false)
	checkID(t, a, 1, 2, true)
	checkID(t, a, 3, 0, false)
}

// P3.2: a full table still finds the ids that it has.
func TestFull(t *testing.T) {
	a := made(t, 0)
	put(t, a, 0, 0, false, api.ErrFull)
	a = made(t, api.MaxSlots)
	id := func(i int) uint64 { return uint64(i) << 40 }
	for i := range api.MaxSlots {
		put(t, a, id(i), i, true, api.OK)
	}
	put(t, a, 1, 0, false, api.ErrFull)
	if a.Len() != api.MaxSlots || len(a.List()) != api.MaxSlots {
		t.Errorf("Len %d, List of %d", a.Len(), len(a.List()))
	}
	for i := range api.MaxSlots {
		put(t, a, id(i), i, false, api.OK)
	}
	for i := range api.MaxSlots {
		del(t, a, id(i), api.OK)
	}
	if a.Len() != 0 {
		t.Errorf("Len %d", a.Len())
	}
	put(t, a, 1, api.MaxSlots-1, true, api.OK)
}

// P3.2, P3.3: the ids at the ends of their range are ids like others.
func TestExtremeIDs(t *testing.T) {
	a := made(t, 4)
	l := []uint64{0, math.MaxUint64, 1 << 63, math.MaxInt64}
	for i, id := range l {
		get(t, a, id, 0, false)
		put(t, a, id, i, true, api.OK)
	}
	for i, id := range l {
		get(t, a, id, i, true)
		checkID(t, a, i, id, true)
	}
	if !slices.Equal(a.List(), []uint64{0, math.MaxInt64, 1 << 63, math.MaxUint64}) {
		t.Errorf("List: %v", a.List())
	}
}

// P3.4: an id that was removed, or never put, is not there.
func TestDelErrors(t *testing.T) {
	a := made(t, 2)
	del(t, a, 5, api.ErrNone)
	put(t, a, 5, 0, true, api.OK)
	del(t, a, 6, api.ErrNone)
	del(t, a, 5, api.OK)
	del(t, a, 5, api.ErrNone)
	checkID(t, a, 0, 0, false)
	for _, i := range []int{-1, 1, 2, math.MinInt, math.MaxInt} {
		checkID(t, a, i, 0, false)
	}
}

// P3.6, R4, R8
func TestCopy(t *testing.T) {
	a := made(t, 5)
	for i := range 5 {
		put(t, a, uint64(10+i), i, true, api.OK)
	}
	for _, id := range []uint64{12, 10} {
		del(t, a, id, api.OK)
	}
	c := a.Copy()
	put(t, a, 99, 0, true, api.OK)
	del(t, a, 11, api.OK)
	get(t, c, 99, 0, false)
	get(t, c, 11, 1, true)
	checkID(t, c, 0, 0, false)
	if !slices.Equal(c.List(), []uint64{11, 13, 14}) {
		t.Errorf("List of the copy: %v", c.List())
	}
	put(t, c, 20, 0, true, api.OK)
	put(t, c, 21, 2, true, api.OK)
	put(t, c, 22, 0, false, api.ErrFull)
	checkID(t, a, 0, 99, true)
	if !slices.Equal(a.List(), []uint64{13, 14, 99}) {
		t.Errorf("List of the original: %v", a.List())
	}
}

// R4
func TestListIsNewMemory(t *testing.T) {
	a := made(t, 2)
	a.Put(3)
	l := a.List()
	l[0] = 9
	checkID(t, a, 0, 3, true)
	if !slices.Equal(a.List(), []uint64{3}) {
		t.Errorf("List: %v", a.List())
	}
}

// R2
func TestNotValid(t *testing.T) {
	for _, a := range []*intern.Table{nil, {}} {
		put(t, a, 0, 0, false, api.ErrNil)
		del(t, a, 0, api.ErrNil)
		get(t, a, 0, 0, false)
		checkID(t, a, 0, 0, false)
		if a.Len() != 0 || a.List() != nil || a.Copy() != nil {
			t.Errorf("Len %d, List %v, Copy %v", a.Len(), a.List(), a.Copy())
		}
	}
}
