package histo_test

import (
	"math"
	"slices"
	"testing"

	"seepage/api"
	"seepage/histo"
)

const (
	least = math.MinInt64
	most  = math.MaxInt64
)

func made(t *testing.T, bounds ...int64) *histo.Histogram {
	t.Helper()
	h, e := histo.New(bounds)
	if h == nil || e != api.OK {
		t.Fatalf("New(%d bounds) = %v, error %d", len(bounds), h, e)
	}
	return h
}

func refused(t *testing.T, bounds []int64, want api.Errno) {
	t.Helper()
	if h, e := histo.New(bounds); h != nil || e != want {
		t.Errorf("New(%d bounds) = %v, error %d; expected %d", len(bounds), h, e, want)
	}
}

func add(t *testing.T, h *histo.Histogram, x, times int64, want api.Errno) {
	t.Helper()
	if e := h.Add(x, times); e != want {
		t.Fatalf("Add(%d, %d) = %d, expected %d", x, times, e, want)
	}
}

func merge(t *testing.T, h, o *histo.Histogram, want api.Errno) {
	t.Helper()
	if e := h.Merge(o); e != want {
		t.Fatalf("Merge = %d, expected %d", e, want)
	}
}

func quantile(t *testing.T, h *histo.Histogram, n, d int64, want int, we api.Errno) {
	t.Helper()
	if got, e := h.Quantile(n, d); got != want || e != we {
		t.Fatalf("Quantile(%d, %d) of %v = %d, error %d; expected %d, error %d", n, d, h.Counts(), got, e, want, we)
	}
}

// compare compares a histogram with its bounds and counts.
func compare(t *testing.T, h *histo.Histogram, bounds []int64, counts ...int64) {
	t.Helper()
	total := int64(0)
	for _, n := range counts {
		total += n
	}
	if !slices.Equal(h.Bounds(), bounds) || !slices.Equal(h.Counts(), counts) || h.Total() != total {
		t.Fatalf("Bounds %v, Counts %v, Total %d; expected %v, %v, %d", h.Bounds(), h.Counts(), h.Total(), bounds, counts, total)
	}
}

func coarse(t *testing.T, h *histo.Histogram, bound int) *histo.Histogram {
	t.Helper()
	c, e := h.Coarse(bound)
	if c == nil || e != api.OK {
		t.Fatalf("Coarse(%d) = %v, error %d", bound, c, e)
	}
	return c
}

// P28.2 to P28.6: the chapter's examples.
func TestExamples(t *testing.T) {
	bounds := []int64{0, 10}
	h := made(t, bounds...)
	for i, x := range []int64{-1, 0, 9, 10} {
		if got := h.Bucket(x); got != []int{0, 1, 1, 2}[i] {
			t.Errorf("Bucket(%d) = %d", x, got)
		}
	}
	compare(t, h, bounds, 0, 0, 0)
	add(t, h, 5, 3, api.OK)
	add(t, h, -7, 1, api.OK)
	add(t, h, 10, 4, api.OK)
	add(t, h, 1, -1, api.ErrArg)
	compare(t, h, bounds, 1, 3, 4)
	quantile(t, h, 0, 1, 0, api.OK)
	quantile(t, h, 1, 8, 0, api.OK)
	quantile(t, h, 1, 2, 1, api.OK)
	quantile(t, h, 9, 16, 2, api.OK)
	quantile(t, h, 1, 1, 2, api.OK)
	quantile(t, h, 2, 1, 0, api.ErrArg)
	compare(t, coarse(t, h, 0), []int64{10}, 4, 4)
	compare(t, coarse(t, h, 1), []int64{0}, 1, 7)
	if c, e := h.Coarse(2); c != nil || e != api.ErrRange {
		t.Errorf("Coarse(2) = %v, error %d", c, e)
	}
	compare(t, h, bounds, 1, 3, 4)
}

// P28.1
func TestNew(t *testing.T) {
	compare(t, made(t), nil, 0)
	compare(t, made(t, least, most), []int64{least, most}, 0, 0, 0)
	for _, bounds := range [][]int64{{1, 1}, {1, 0}, {most, least}, {0, 1, 1}, {0, 2, 1}, {1, 0, 2}} {
		refused(t, bounds, api.ErrArg)
	}
	var many []int64
	for i := range 1025 {
		many = append(many, int64(3*i))
	}
	refused(t, many, api.ErrArg)
	refused(t, make([]int64, 1025), api.ErrArg)
	h := made(t, many[:1024]...)
	for i := range int64(1024) {
		if h.Bucket(3*i) != int(i)+1 || h.Bucket(3*i-1) != int(i) || h.Bucket(3*i+1) != int(i)+1 {
			t.Fatalf("Bucket(%d) = %d", 3*i, h.Bucket(3*i))
		}
	}
	compare(t, h, many[:1024], make([]int64, 1025)...)
}

// P28.3: numbers at the ends of the range.
func TestBucket(t *testing.T) {
	h := made(t, least, 0, most)
	for _, c := range []struct {
		x    int64
		want int
	}{{least, 1}, {least + 1, 1}, {-1, 1}, {0, 2}, {most - 1, 2}, {most, 3}} {
		if got := h.Bucket(c.x); got != c.want {
			t.Errorf("Bucket(%d) = %d, expected %d", c.x, got, c.want)
		}
	}
	if one := made(t); one.Bucket(least) != 0 || one.Bucket(most) != 0 {
		t.Errorf("Bucket without bounds")
	}
}

// P28.2, P28.4: totals that do not fit.
func TestOver(t *testing.T) {
	h := made(t, 0)
	add(t, h, 5, most-1, api.OK)
	add(t, h, -5, 2, api.ErrOver)
	add(t, h, 5, most, api.ErrOver)
	add(t, h, 5, least, api.ErrArg)
	add(t, h, -5, 0, api.OK)
	compare(t, h, []int64{0}, 0, most-1)
	add(t, h, -5, 1, api.OK)
	compare(t, h, []int64{0}, 1, most-1)
	add(t, h, -5, 1, api.ErrOver)
	add(t, h, 5, 0, api.OK)
	merge(t, h, h, api.ErrOver)
	merge(t, h, made(t, 0), api.OK)
	o := made(t, 0)
	merge(t, o, h, api.OK)
	compare(t, o, []int64{0}, 1, most-1)
	merge(t, o, h, api.ErrOver)
	compare(t, o, []int64{0}, 1, most-1)
	quantile(t, o, 1, most, 0, api.OK)
	quantile(t, o, 2, most, 1, api.OK)
	quantile(t, o, 1, most-1, 1, api.OK)
	quantile(t, o, most, most, 1, api.OK)
	half := made(t)
	add(t, half, 0, 1<<62-1, api.OK)
	merge(t, half, half, api.OK)
	compare(t, half, nil, most-1)
	add(t, half, 1, 1, api.OK)
	add(t, half, 1, 1, api.ErrOver)
}

// P28.4
func TestMerge(t *testing.T) {
	h, o := made(t, 1, 5), made(t, 1, 5)
	add(t, h, 0, 2, api.OK)
	add(t, h, 3, 5, api.OK)
	add(t, o, 3, 10, api.OK)
	add(t, o, 9, 20, api.OK)
	merge(t, h, o, api.OK)
	compare(t, h, []int64{1, 5}, 2, 15, 20)
	compare(t, o, []int64{1, 5}, 0, 10, 20)
	merge(t, h, h, api.OK)
	compare(t, h, []int64{1, 5}, 4, 30, 40)
	for _, bounds := range [][]int64{nil, {1}, {1, 6}, {0, 5}, {1, 5, 7}} {
		other := made(t, bounds...)
		add(t, other, 2, most, api.OK)
		merge(t, h, other, api.ErrArg)
		merge(t, other, h, api.ErrArg)
	}
	compare(t, h, []int64{1, 5}, 4, 30, 40)
}

// P28.5: fractions that are not possible, and nothing that was counted.
func TestQuantile(t *testing.T) {
	h := made(t, 0, 1, 2)
	for _, c := range [][2]int64{{-1, 1}, {0, 0}, {1, 0}, {0, -1}, {-2, -1}, {2, 1}, {most, most - 1}, {least, least}, {1, least}} {
		quantile(t, h, c[0], c[1], 0, api.ErrArg)
	}
	quantile(t, h, 0, 1, 0, api.ErrNone)
	quantile(t, h, 1, 1, 0, api.ErrNone)
	add(t, h, 1, 0, api.OK)
	quantile(t, h, 1, 1, 0, api.ErrNone)
	add(t, h, 0, 1, api.OK)
	add(t, h, 1, 2, api.OK)
	quantile(t, h, 0, 5, 0, api.OK)
	quantile(t, h, 1, most, 1, api.OK)
	quantile(t, h, 1, 3, 1, api.OK)
	quantile(t, h, 1<<61, 3<<61-1, 2, api.OK)
	quantile(t, h, 1<<61, 3<<61, 1, api.OK)
	quantile(t, h, 1, 2, 2, api.OK)
	quantile(t, h, 7, 7, 2, api.OK)
}

// P28.6
func TestCoarse(t *testing.T) {
	h := made(t, 1, 2, 3)
	for i, n := range []int64{1, 10, 100, 1000} {
		add(t, h, int64(i), n, api.OK)
	}
	compare(t, coarse(t, h, 0), []int64{2, 3}, 11, 100, 1000)
	compare(t, coarse(t, h, 1), []int64{1, 3}, 1, 110, 1000)
	c := coarse(t, h, 2)
	compare(t, c, []int64{1, 2}, 1, 10, 1100)
	add(t, c, 5, 1, api.OK)
	add(t, h, 2, 5, api.OK)
	compare(t, c, []int64{1, 2}, 1, 10, 1101)
	compare(t, h, []int64{1, 2, 3}, 1, 10, 105, 1000)
	one := coarse(t, coarse(t, c, 1), 0)
	compare(t, one, nil, 1112)
	for _, bound := range []int{-1, 3, 4, math.MinInt, math.MaxInt} {
		if c, e := h.Coarse(bound); c != nil || e != api.ErrRange {
			t.Errorf("Coarse(%d) = %v, error %d", bound, c, e)
		}
	}
	if c, e := one.Coarse(0); c != nil || e != api.ErrRange {
		t.Errorf("Coarse(0) = %v, error %d", c, e)
	}
}

// P28.3, R8
func TestCopy(t *testing.T) {
	h := made(t, 4)
	add(t, h, 9, 2, api.OK)
	c := h.Copy()
	add(t, h, 0, 3, api.OK)
	add(t, c, 9, 4, api.OK)
	compare(t, h, []int64{4}, 3, 2)
	compare(t, c, []int64{4}, 0, 6)
	merge(t, h, c, api.OK)
	compare(t, h, []int64{4}, 3, 8)
	compare(t, c, []int64{4}, 0, 6)
}

// R4
func TestMemory(t *testing.T) {
	bounds := []int64{1, 2, 9}
	h := made(t, bounds[:2]...)
	bounds[0] = 7
	clear(append(h.Bounds(), 5))
	add(t, h, 1, 3, api.OK)
	clear(append(h.Counts(), 5))
	compare(t, h, []int64{1, 2}, 0, 3, 0)
	if !slices.Equal(bounds, []int64{7, 2, 9}) {
		t.Errorf("%v", bounds)
	}
}

// R2
func TestNotValid(t *testing.T) {
	for _, h := range []*histo.Histogram{nil, {}} {
		add(t, h, 1, 1, api.ErrNil)
		add(t, h, 1, -1, api.ErrNil)
		merge(t, h, made(t), api.ErrNil)
		merge(t, made(t), h, api.ErrNil)
		merge(t, h, h, api.ErrNil)
		quantile(t, h, -1, 0, 0, api.ErrNil)
		quantile(t, h, 1, 1, 0, api.ErrNil)
		if c, e := h.Coarse(0); c != nil || e != api.ErrNil {
			t.Errorf("Coarse = %v, error %d", c, e)
		}
		if h.Bucket(5) != 0 || h.Counts() != nil || h.Bounds() != nil || h.Total() != 0 || h.Copy() != nil {
			t.Errorf("Bucket %d, Counts %v, Bounds %v, Total %d, Copy %v", h.Bucket(5), h.Counts(), h.Bounds(), h.Total(), h.Copy())
		}
	}
}
