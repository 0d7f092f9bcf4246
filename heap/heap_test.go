package heap_test

import (
	"math"
	"slices"
	"testing"

	"seepage/api"
	"seepage/heap"
)

func made(t *testing.T, slots int) *heap.Heap {
	t.Helper()
	h, e := heap.New(slots)
	if h == nil || e != api.OK {
		t.Fatalf("New(%d) = %v, error %d", slots, h, e)
	}
	return h
}

func checkErr(t *testing.T, call string, i int, got, want api.Errno) {
	t.Helper()
	if got != want {
		t.Fatalf("%s(%d): error %d, expected %d", call, i, got, want)
	}
}

func checkFirst(t *testing.T, call string, got api.Entry, ok bool, want api.Entry, wok bool) {
	t.Helper()
	if got != want || ok != wok {
		t.Fatalf("%s() = %v, %t; expected %v, %t", call, got, ok, want, wok)
	}
}

// P4.1
func TestNew(t *testing.T) {
	for _, n := range []int{0, 1, 2, 255, 256, 257, api.MaxSlots} {
		h := made(t, n)
		if h.Len() != 0 || len(h.List()) != 0 {
			t.Errorf("New(%d): Len %d, List %v", n, h.Len(), h.List())
		}
		for _, i := range []int{0, n - 1} {
			if i >= 0 && i < n {
				checkErr(t, "Push", i, h.Push(i, 7), api.OK)
				checkErr(t, "Remove", i, h.Remove(i), api.OK)
			}
		}
		for _, i := range []int{-1, n, n + 1, math.MinInt, math.MaxInt} {
			checkErr(t, "Push", i, h.Push(i, 7), api.ErrRange)
			checkErr(t, "Change", i, h.Change(i, 7), api.ErrRange)
			checkErr(t, "Remove", i, h.Remove(i), api.ErrRange)
			if key, ok := h.Key(i); key != 0 || ok {
				t.Errorf("Key(%d) = %d, %t", i, key, ok)
			}
		}
	}
	for _, n := range []int{-1, math.MinInt, api.MaxSlots + 1, math.MaxInt} {
		if h, e := heap.New(n); h != nil || e != api.ErrArg {
			t.Errorf("New(%d) = %v, error %d", n, h, e)
		}
	}
}

// P4.2 to P4.5: the chapter's examples.
func TestExamples(t *testing.T) {
	h := made(t, 4)
	checkErr(t, "Push", 2, h.Push(2, 5), api.OK)
	checkErr(t, "Push", 0, h.Push(0, 5), api.OK)
	checkErr(t, "Push", 3, h.Push(3, -1), api.OK)
	checkErr(t, "Push", 2, h.Push(2, 7), api.ErrHave)
	checkErr(t, "Push", 4, h.Push(4, 0), api.ErrRange)
	min, ok := h.Min()
	checkFirst(t, "Min", min, ok, api.Entry{Index: 3, Key: -1}, true)
	if l := h.List(); !slices.Equal(l, []api.Entry{{Index: 3, Key: -1}, {Index: 0, Key: 5}, {Index: 2, Key: 5}}) {
		t.Errorf("List: %v", l)
	}
	checkErr(t, "Change", 3, h.Change(3, 6), api.OK)
	checkErr(t, "Change", 1, h.Change(1, 6), api.ErrNone)
	min, ok = h.Pop()
	checkFirst(t, "Pop", min, ok, api.Entry{Index: 0, Key: 5}, true)
	checkErr(t, "Remove", 2, h.Remove(2), api.OK)
	min, ok = h.Pop()
	checkFirst(t, "Pop", min, ok, api.Entry{Index: 3, Key: 6}, true)
	min, ok = h.Pop()
	checkFirst(t, "Pop", min, ok, api.Entry{}, false)
	min, ok = h.Min()
	checkFirst(t, "Min", min, ok, api.Entry{}, false)
}

// P4.2, P4.3: an index that was removed or popped is not there, and can be pushed again.
func TestRemovedIndexes(t *testing.T) {
	h := made(t, 3)
	checkErr(t, "Remove", 1, h.Remove(1), api.ErrNone)
	h.Push(1, 4)
	h.Push(2, 9)
	checkErr(t, "Remove", 1, h.Remove(1), api.OK)
	checkErr(t, "Remove", 1, h.Remove(1), api.ErrNone)
	checkErr(t, "Change", 1, h.Change(1, 0), api.ErrNone)
	h.Pop()
	checkErr(t, "Change", 2, h.Change(2, 0), api.ErrNone)
	checkErr(t, "Push", 2, h.Push(2, 1), api.OK)
	if key, ok := h.Key(2); key != 1 || !ok || h.Len() != 1 {
		t.Errorf("Key(2) = %d, %t, Len %d", key, ok, h.Len())
	}
}

// P4.4: the keys at the ends of their range are in order.
func TestExtremeKeys(t *testing.T) {
	h := made(t, 5)
	keys := []int64{math.MaxInt64, 0, math.MinInt64, -1, 1}
	for i, key := range keys {
		checkErr(t, "Push", i, h.Push(i, key), api.OK)
	}
	for _, i := range []int{2, 3, 1, 4, 0} {
		first, ok := h.Pop()
		checkFirst(t, "Pop", first, ok, api.Entry{Index: i, Key: keys[i]}, true)
	}
}

// P4.2, P4.6: all slots in use, with few different keys.
func TestFull(t *testing.T) {
	const n = api.MaxSlots
	h := made(t, n)
	for k := range n {
		i := k * 40503 % n
		checkErr(t, "Push", i, h.Push(i, int64(i%5)), api.OK)
	}
	if h.Len() != n {
		t.Fatalf("Len %d", h.Len())
	}
	l := h.List()
	for k := range n {
		if k > 0 && !before(l[k-1], l[k]) {
			t.Fatalf("List has %v, %v", l[k-1], l[k])
		}
		first, ok := h.Pop()
		checkFirst(t, "Pop", first, ok, l[k], true)
	}
	if h.Len() != 0 {
		t.Errorf("Len %d", h.Len())
	}
}

// R4
func TestListIsNewMemory(t *testing.T) {
	h := made(t, 2)
	h.Push(0, 1)
	h.Push(1, 2)
	h.List()[0] = api.Entry{Index: 1, Key: 8}
	min, ok := h.Min()
	checkFirst(t, "Min", min, ok, api.Entry{Index: 0, Key: 1}, true)
}

// R2
func TestNotValid(t *testing.T) {
	for _, h := range []*heap.Heap{nil, {}} {
		for _, i := range []int{-1, 0, 1} {
			checkErr(t, "Push", i, h.Push(i, 7), api.ErrNil)
			checkErr(t, "Change", i, h.Change(i, 7), api.ErrNil)
			checkErr(t, "Remove", i, h.Remove(i), api.ErrNil)
			if key, ok := h.Key(i); key != 0 || ok {
				t.Errorf("Key(%d) = %d, %t", i, key, ok)
			}
		}
		min, ok := h.Min()
		checkFirst(t, "Min", min, ok, api.Entry{}, false)
		min, ok = h.Pop()
		checkFirst(t, "Pop", min, ok, api.Entry{}, false)
		if h.Len() != 0 || h.List() != nil || h.Copy() != nil {
			t.Errorf("Len %d, List %v, Copy %v", h.Len(), h.List(), h.Copy())
		}
	}
}
