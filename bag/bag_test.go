package bag_test

import (
	"math"
	"slices"
	"testing"

	"seepage/api"
	"seepage/bag"
)

const (
	least    = math.MinInt64
	most     = math.MaxInt64
	maxCount = math.MaxInt32
)

// item is a number with its count.
type item struct {
	x     int64
	times int
}

func bagOf(t *testing.T, l ...item) *bag.Bag {
	t.Helper()
	b := bag.New()
	for _, i := range l {
		add(t, b, i.x, i.times, api.OK)
	}
	return b
}

func add(t *testing.T, b *bag.Bag, x int64, times int, want api.Errno) {
	t.Helper()
	if e := b.Add(x, times); e != want {
		t.Fatalf("Add(%d, %d): error %d, expected %d", x, times, e, want)
	}
}

func remove(t *testing.T, b *bag.Bag, x int64, times int, want api.Errno) {
	t.Helper()
	if e := b.Remove(x, times); e != want {
		t.Fatalf("Remove(%d, %d): error %d, expected %d", x, times, e, want)
	}
}

func number(t *testing.T, call string, got int64, ok bool, want int64, wok bool) {
	t.Helper()
	if got != want || ok != wok {
		t.Fatalf("%s = %d, %t; expected %d, %t", call, got, ok, want, wok)
	}
}

func total(t *testing.T, call string, got int64, e api.Errno, want int64, we api.Errno) {
	t.Helper()
	if got != want || e != we {
		t.Fatalf("%s = %d, error %d; expected %d, error %d", call, got, e, want, we)
	}
}

func all(b *bag.Bag) []item {
	var l []item
	for x, times := range b.All() {
		l = append(l, item{x, times})
	}
	return l
}

// P6.1, P6.5, P6.6: a bag without numbers.
func TestEmpty(t *testing.T) {
	used := bagOf(t, item{5, 2}, item{6, 1})
	remove(t, used, 5, 2, api.OK)
	remove(t, used, 6, 1, api.OK)
	for _, b := range []*bag.Bag{bag.New(), used} {
		if b == nil || b.Size() != 0 || b.Distinct() != 0 || b.Count(0) != 0 || b.Rank(most) != 0 || len(all(b)) != 0 {
			t.Errorf("Size %d, Distinct %d, All %v", b.Size(), b.Distinct(), all(b))
		}
		x, ok := b.Min()
		number(t, "Min", x, ok, 0, false)
		x, ok = b.Max()
		number(t, "Max", x, ok, 0, false)
		for _, k := range []int{-1, 0, 1} {
			x, ok = b.Kth(k)
			number(t, "Kth", x, ok, 0, false)
		}
		sum, e := b.Sum()
		total(t, "Sum", sum, e, 0, api.OK)
		sum, e = b.Squares()
		total(t, "Squares", sum, e, 0, api.OK)
		remove(t, b, 0, 1, api.ErrNone)
		remove(t, b, 0, 0, api.OK)
	}
}

// P6.2 to P6.6: the chapter's examples.
func TestExamples(t *testing.T) {
	b := bag.New()
	add(t, b, 5, 2, api.OK)
	add(t, b, -3, 1, api.OK)
	add(t, b, 5, 0, api.OK)
	add(t, b, 7, -1, api.ErrArg)
	if b.Size() != 3 || b.Distinct() != 2 || b.Rank(5) != 1 || b.Rank(6) != 3 {
		t.Errorf("Size %d, Distinct %d, Rank %d, %d", b.Size(), b.Distinct(), b.Rank(5), b.Rank(6))
	}
	x, ok := b.Kth(0)
	number(t, "Kth(0)", x, ok, -3, true)
	x, ok = b.Kth(2)
	number(t, "Kth(2)", x, ok, 5, true)
	x, ok = b.Kth(3)
	number(t, "Kth(3)", x, ok, 0, false)
	sum, e := b.Sum()
	total(t, "Sum", sum, e, 7, api.OK)
	sum, e = b.Squares()
	total(t, "Squares", sum, e, 59, api.OK)
	remove(t, b, 5, 3, api.ErrNone)
	remove(t, b, 5, 2, api.OK)
	x, ok = b.Max()
	number(t, "Max", x, ok, -3, true)
	add(t, b, most, 2, api.OK)
	sum, e = b.Sum()
	total(t, "Sum", sum, e, 0, api.ErrOver)
}

// P6.2: the size is at most 2,147,483,647, also over several numbers.
func TestFull(t *testing.T) {
	b := bagOf(t, item{1, maxCount})
	add(t, b, 1, 1, api.ErrFull)
	add(t, b, 2, 1, api.ErrFull)
	add(t, b, 2, math.MaxInt, api.ErrFull)
	add(t, b, 2, 0, api.OK)
	add(t, b, 2, -1, api.ErrArg)
	remove(t, b, 1, 7, api.OK)
	add(t, b, -2, 8, api.ErrFull)
	add(t, b, -2, 7, api.OK)
	add(t, b, -2, 1, api.ErrFull)
	if got := all(b); !slices.Equal(got, []item{{-2, 7}, {1, maxCount - 7}}) || b.Size() != maxCount {
		t.Errorf("%v, Size %d", got, b.Size())
	}
	add(t, bag.New(), 0, maxCount+1, api.ErrFull)
	add(t, bag.New(), 0, math.MaxInt, api.ErrFull)
	add(t, bag.New(), 0, math.MinInt, api.ErrArg)
}

// P6.2, P6.3: errors change nothing.
func TestErrors(t *testing.T) {
	b := bagOf(t, item{4, 3}, item{9, 1})
	remove(t, b, 4, 4, api.ErrNone)
	remove(t, b, 5, 1, api.ErrNone)
	remove(t, b, 4, math.MaxInt, api.ErrNone)
	remove(t, b, 4, -1, api.ErrArg)
	remove(t, b, 5, -1, api.ErrArg)
	remove(t, b, 5, math.MinInt, api.ErrArg)
	remove(t, b, 5, 0, api.OK)
	remove(t, b, 4, 0, api.OK)
	add(t, b, 4, -1, api.ErrArg)
	if got := all(b); !slices.Equal(got, []item{{4, 3}, {9, 1}}) {
		t.Errorf("%v", got)
	}
}

// P6.6: results at the ends of 64 bits, and far beyond them.
func TestSums(t *testing.T) {
	for _, c := range []struct {
		l            []item
		sum, squares api.Errno
	}{
		{[]item{{-2, 3}, {0, 4}, {1, 5}}, api.OK, api.OK},
		{[]item{{most, 1}}, api.OK, api.ErrOver},
		{[]item{{least, 1}}, api.OK, api.ErrOver},
		{[]item{{most, 1}, {1, 1}}, api.ErrOver, api.ErrOver},
		{[]item{{least, 1}, {-1, 1}}, api.ErrOver, api.ErrOver},
		{[]item{{most, 1}, {1, 1}, {-1, 1}}, api.OK, api.ErrOver},
		{[]item{{most, 2}, {least, 2}}, api.OK, api.ErrOver},
		{[]item{{most, 1 << 30}, {least, 1<<30 - 1}}, api.OK, api.ErrOver},
		{[]item{{most, maxCount}}, api.ErrOver, api.ErrOver},
		{[]item{{least, maxCount}}, api.ErrOver, api.ErrOver},
		{[]item{{3037000499, maxCount}}, api.OK, api.ErrOver},
		// 2^64 and -2^64 are 0 modulo 2^64, and so are the squares of 2^32 and -2^63.
		{[]item{{most, 2}, {2, 1}}, api.ErrOver, api.ErrOver},
		{[]item{{least, 2}}, api.ErrOver, api.ErrOver},
		{[]item{{1 << 32, 1}}, api.OK, api.ErrOver},
		{[]item{{-1 << 32, 1}}, api.OK, api.ErrOver},
		{[]item{{1 << 31, 1}}, api.OK, api.OK},
		{[]item{{1 << 31, 2}}, api.OK, api.ErrOver},
		{[]item{{1 << 31, 4}}, api.OK, api.ErrOver},
		{[]item{{-1 << 31, 1}}, api.OK, api.OK},
		// The first square above 2^63 - 1, and the last one below it.
		{[]item{{3037000500, 1}}, api.OK, api.ErrOver},
		{[]item{{-3037000500, 1}}, api.OK, api.ErrOver},
		{[]item{{3037000499, 1}}, api.OK, api.OK},
		{[]item{{-3037000499, 1}}, api.OK, api.OK},
		// These squares are 2^63 - 1 together, and 2^63.
		{[]item{{-3037000499, 1}, {76996, 1}, {377, 1}, {25, 1}, {6, 1}}, api.OK, api.OK},
		{[]item{{-3037000499, 1}, {76996, 1}, {377, 1}, {25, 1}, {6, 1}, {1, 1}}, api.OK, api.ErrOver},
	} {
		b := bagOf(t, c.l...)
		want, we := exactSum(c.l, 1)
		sum, e := b.Sum()
		total(t, "Sum", sum, e, want, we)
		want, we = exactSum(c.l, 2)
		squares, qe := b.Squares()
		total(t, "Squares", squares, qe, want, we)
		if e != c.sum || qe != c.squares {
			t.Errorf("Sum and Squares of %v: errors %d, %d; expected %d, %d", c.l, e, qe, c.sum, c.squares)
		}
	}
	b := bagOf(t, item{-3037000499, 1}, item{76996, 1}, item{377, 1}, item{25, 1}, item{6, 1})
	squares, e := b.Squares()
	total(t, "Squares", squares, e, most, api.OK)
	b = bagOf(t, item{most, 1 << 30}, item{least, 1<<30 - 1})
	sum, e := b.Sum()
	total(t, "Sum", sum, e, most-1<<30+1, api.OK)
}

// P6.5, P6.7: numbers at the ends of their range, in any order of adding.
func TestExtremeNumbers(t *testing.T) {
	b := bagOf(t, item{0, 1}, item{most, 2}, item{least, 3}, item{-1, 1}, item{1, 1})
	if got := all(b); !slices.Equal(got, []item{{least, 3}, {-1, 1}, {0, 1}, {1, 1}, {most, 2}}) {
		t.Errorf("%v", got)
	}
	if b.Rank(least) != 0 || b.Rank(least+1) != 3 || b.Rank(most) != 6 {
		t.Errorf("Rank: %d, %d, %d", b.Rank(least), b.Rank(least+1), b.Rank(most))
	}
	x, ok := b.Min()
	number(t, "Min", x, ok, least, true)
	x, ok = b.Max()
	number(t, "Max", x, ok, most, true)
	x, ok = b.Kth(math.MaxInt)
	number(t, "Kth", x, ok, 0, false)
	x, ok = b.Kth(math.MinInt)
	number(t, "Kth", x, ok, 0, false)
}

// P6.7, R7
func TestIterator(t *testing.T) {
	b := bagOf(t, item{1, 1}, item{2, 2}, item{3, 3}, item{4, 4}, item{5, 5})
	seq := b.All()
	for stop := 1; stop <= 5; stop++ {
		var got []item
		for x, times := range seq {
			got = append(got, item{x, times})
			if len(got) == stop {
				break
			}
		}
		if !slices.Equal(got, all(b)[:stop]) {
			t.Errorf("%v", got)
		}
	}
	want := all(b)
	var got []item
	for x, times := range seq {
		got = append(got, item{x, times})
		for y := range int64(7) {
			b.Remove(y, b.Count(y))
			b.Add(-y, 9)
		}
		b.Add(x+100, 1)
	}
	if !slices.Equal(got, want) {
		t.Errorf("%v, expected %v", got, want)
	}
	got = nil
	for x, times := range seq {
		got = append(got, item{x, times})
	}
	if !slices.Equal(got, all(b)) || len(got) != 12 {
		t.Errorf("%v, expected %v", got, all(b))
	}
}

// P6.7, R8
func TestCopy(t *testing.T) {
	b := bagOf(t, item{1, 1}, item{2, 2}, item{3, 3})
	c := b.Copy()
	add(t, b, 2, 5, api.OK)
	remove(t, b, 3, 3, api.OK)
	add(t, c, 9, 1, api.OK)
	remove(t, c, 1, 1, api.OK)
	if got := all(b); !slices.Equal(got, []item{{1, 1}, {2, 7}}) {
		t.Errorf("original: %v", got)
	}
	if got := all(c); !slices.Equal(got, []item{{2, 2}, {3, 3}, {9, 1}}) {
		t.Errorf("copy: %v", got)
	}
}

// R2
func TestNotValid(t *testing.T) {
	for _, b := range []*bag.Bag{nil, {}} {
		for _, times := range []int{-1, 0, 1, math.MaxInt} {
			add(t, b, 5, times, api.ErrNil)
			remove(t, b, 5, times, api.ErrNil)
		}
		if b.Count(0) != 0 || b.Size() != 0 || b.Distinct() != 0 || b.Rank(most) != 0 || b.Copy() != nil {
			t.Errorf("Count %d, Size %d, Distinct %d, Rank %d, Copy %v", b.Count(0), b.Size(), b.Distinct(), b.Rank(most), b.Copy())
		}
		x, ok := b.Min()
		number(t, "Min", x, ok, 0, false)
		x, ok = b.Max()
		number(t, "Max", x, ok, 0, false)
		for _, k := range []int{-1, 0, 1} {
			x, ok = b.Kth(k)
			number(t, "Kth", x, ok, 0, false)
		}
		sum, e := b.Sum()
		total(t, "Sum", sum, e, 0, api.ErrNil)
		sum, e = b.Squares()
		total(t, "Squares", sum, e, 0, api.ErrNil)
		if seq := b.All(); seq == nil || len(all(b)) != 0 {
			t.Errorf("All: %v", all(b))
		}
	}
}
