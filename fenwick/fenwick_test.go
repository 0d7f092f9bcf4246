package fenwick_test

import (
	"math"
	"testing"

	"seepage/api"
	"seepage/fenwick"
)

const most = math.MaxInt64

func made(t *testing.T, n int) *fenwick.Counts {
	t.Helper()
	c, e := fenwick.New(n)
	if c == nil || e != api.OK {
		t.Fatalf("New(%d) = %v, error %d", n, c, e)
	}
	return c
}

func countsOf(t *testing.T, l ...int64) *fenwick.Counts {
	t.Helper()
	c := made(t, len(l))
	for i, d := range l {
		add(t, c, i, d, api.OK)
	}
	return c
}

func add(t *testing.T, c *fenwick.Counts, i int, d int64, want api.Errno) {
	t.Helper()
	if e := c.Add(i, d); e != want {
		t.Fatalf("Add(%d, %d): error %d, expected %d", i, d, e, want)
	}
}

func find(t *testing.T, c *fenwick.Counts, x int64, want int, wok bool) {
	t.Helper()
	if got, ok := c.Find(x); got != want || ok != wok {
		t.Fatalf("Find(%d) = %d, %t; expected %d, %t", x, got, ok, want, wok)
	}
}

// compare compares all that the counters show with a list of them; P7.7.
func compare(t *testing.T, c *fenwick.Counts, l []int64) {
	t.Helper()
	n := len(l)
	if c.Len() != n {
		t.Fatalf("Len %d, expected %d", c.Len(), n)
	}
	prefix := int64(0)
	for i, want := range l {
		if got := c.Get(i); got != want {
			t.Fatalf("Get(%d) = %d, expected %d", i, got, want)
		}
		if got := c.Prefix(i); got != prefix {
			t.Fatalf("Prefix(%d) = %d, expected %d", i, got, prefix)
		}
		if want > 0 {
			find(t, c, prefix, i, true)
			find(t, c, prefix+want-1, i, true)
		}
		prefix += want
	}
	for _, k := range []int{n, n + 1, math.MaxInt} {
		if c.Prefix(k) != prefix || c.Get(k) != 0 || c.Range(math.MinInt, k) != prefix || c.Range(k, math.MaxInt) != 0 {
			t.Fatalf("Prefix(%d) = %d, Get %d, expected %d", k, c.Prefix(k), c.Get(k), prefix)
		}
	}
	for _, k := range []int{0, -1, math.MinInt} {
		if c.Prefix(k) != 0 || k < 0 && c.Get(k) != 0 || c.Range(math.MinInt, k) != 0 {
			t.Fatalf("Prefix(%d) = %d, Get %d", k, c.Prefix(k), c.Get(k))
		}
	}
	if c.Total() != prefix {
		t.Fatalf("Total %d, expected %d", c.Total(), prefix)
	}
	for _, x := range []int64{-1, math.MinInt64, prefix, most} {
		find(t, c, x, 0, false)
	}
}

// P7.1
func TestNew(t *testing.T) {
	for _, n := range []int{0, 1, 2, 3, 100} {
		compare(t, made(t, n), make([]int64, n))
	}
	for _, n := range []int{-1, math.MinInt, api.MaxSlots + 1, math.MaxInt} {
		if c, e := fenwick.New(n); c != nil || e != api.ErrArg {
			t.Errorf("New(%d) = %v, error %d", n, c, e)
		}
	}
}

// P7.1, P7.5: the greatest number of counters.
func TestMostCounters(t *testing.T) {
	for _, n := range []int{api.MaxSlots, api.MaxSlots - 1} {
		c := made(t, n)
		l := make([]int64, n)
		for _, i := range []int{0, 1, 32767, 32768, 40000, n - 2, n - 1} {
			add(t, c, i, int64(i+1), api.OK)
			l[i] = int64(i + 1)
		}
		compare(t, c, l)
		add(t, c, n, 1, api.ErrRange)
	}
}

// P7.2 to P7.5: the chapter's examples.
func TestExamples(t *testing.T) {
	c := countsOf(t, 3, 0, 5, 1)
	compare(t, c, []int64{3, 0, 5, 1})
	for k, want := range map[int]int64{-1: 0, 1: 3, 3: 8, 9: 9} {
		if got := c.Prefix(k); got != want {
			t.Errorf("Prefix(%d) = %d", k, got)
		}
	}
	for ab, want := range map[[2]int]int64{{1, 3}: 5, {3, 1}: 0, {-5, 9}: 9, {2, 2}: 0, {3, 4}: 1, {4, 9}: 0} {
		if got := c.Range(ab[0], ab[1]); got != want {
			t.Errorf("Range(%v) = %d", ab, got)
		}
	}
	for x, want := range map[int64]int{0: 0, 2: 0, 3: 2, 7: 2, 8: 3} {
		find(t, c, x, want, true)
	}
	find(t, c, 9, 0, false)
	find(t, c, -1, 0, false)
	add(t, c, 2, -6, api.ErrArg)
	add(t, c, 4, 1, api.ErrRange)
	add(t, c, 1, most, api.ErrOver)
	compare(t, c, []int64{3, 0, 5, 1})
}

// P7.2: the ends of the range, the order of the errors, and that they change nothing.
func TestAddErrors(t *testing.T) {
	c := countsOf(t, 0, most, 0)
	for _, i := range []int{-1, 3, math.MinInt, math.MaxInt} {
		add(t, c, i, 0, api.ErrRange)
		add(t, c, i, -1, api.ErrRange)
		add(t, c, i, most, api.ErrRange)
	}
	add(t, c, 0, 1, api.ErrOver)
	add(t, c, 1, 1, api.ErrOver)
	add(t, c, 1, most, api.ErrOver)
	add(t, c, 0, -1, api.ErrArg)
	add(t, c, 0, math.MinInt64, api.ErrArg)
	add(t, c, 1, math.MinInt64, api.ErrArg)
	compare(t, c, []int64{0, most, 0})
	add(t, c, 1, 0, api.OK)
	add(t, c, 1, -most, api.OK)
	compare(t, c, []int64{0, 0, 0})
	add(t, c, 2, most-1, api.OK)
	add(t, c, 0, 1, api.OK)
	add(t, c, 1, 1, api.ErrOver)
	compare(t, c, []int64{1, 0, most - 1})
	add(t, made(t, 0), 0, 0, api.ErrRange)
}

// P7.6, R8
func TestCopy(t *testing.T) {
	c := countsOf(t, 4, 0, 9)
	d := c.Copy()
	add(t, c, 1, 6, api.OK)
	add(t, d, 2, -9, api.OK)
	compare(t, c, []int64{4, 6, 9})
	compare(t, d, []int64{4, 0, 0})
	compare(t, made(t, 0).Copy(), nil)
}

// R2
func TestNotValid(t *testing.T) {
	for _, c := range []*fenwick.Counts{nil, {}} {
		for _, i := range []int{-1, 0, 1} {
			add(t, c, i, 1, api.ErrNil)
			add(t, c, i, -1, api.ErrNil)
			if c.Get(i) != 0 || c.Prefix(i) != 0 || c.Range(-1, i) != 0 {
				t.Errorf("Get %d, Prefix %d, Range %d", c.Get(i), c.Prefix(i), c.Range(-1, i))
			}
			find(t, c, int64(i), 0, false)
		}
		if c.Total() != 0 || c.Len() != 0 || c.Copy() != nil {
			t.Errorf("Total %d, Len %d, Copy %v", c.Total(), c.Len(), c.Copy())
		}
	}
}
