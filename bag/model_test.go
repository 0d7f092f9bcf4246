package bag_test

import (
	"math/big"
	"math/rand/v2"
	"slices"
	"testing"

	"seepage/api"
	"seepage/bag"
)

// exactSum returns the sum of the powers of the numbers, each as many times as
// it is there.
func exactSum(l []item, power int) (int64, api.Errno) {
	sum := new(big.Int)
	for _, i := range l {
		n := big.NewInt(int64(i.times))
		for range power {
			n.Mul(n, big.NewInt(i.x))
		}
		sum.Add(sum, n)
	}
	if !sum.IsInt64() {
		return 0, api.ErrOver
	}
	return sum.Int64(), api.OK
}

// model is the sorted sequence of a bag.
type model []int64

func (m model) count(x int64) int {
	n := 0
	for _, y := range m {
		if y == x {
			n++
		}
	}
	return n
}

func (m model) items() []item {
	var l []item
	for _, x := range m {
		if n := len(l); n > 0 && l[n-1].x == x {
			l[n-1].times++
		} else {
			l = append(l, item{x, 1})
		}
	}
	return l
}

func (m *model) add(x int64, times int) {
	*m = append(*m, slices.Repeat([]int64{x}, times)...)
	slices.Sort(*m)
}

func (m *model) remove(x int64, times int) api.Errno {
	if m.count(x) < times {
		return api.ErrNone
	}
	at := slices.Index(*m, x)
	if times > 0 {
		*m = slices.Delete(*m, at, at+times)
	}
	return api.OK
}

// compare compares all that a bag shows with the model.
func (m model) compare(t *testing.T, b *bag.Bag) {
	t.Helper()
	items := m.items()
	if got := all(b); !slices.Equal(got, items) {
		t.Fatalf("All %v, expected %v", got, items)
	}
	if b.Size() != len(m) || b.Distinct() != len(items) {
		t.Fatalf("Size %d, Distinct %d; expected %d, %d", b.Size(), b.Distinct(), len(m), len(items))
	}
	for k := -1; k <= len(m); k++ {
		x, ok := b.Kth(k)
		if k < 0 || k == len(m) {
			number(t, "Kth", x, ok, 0, false)
			continue
		}
		number(t, "Kth", x, ok, m[k], true)
		// P6.8
		if r := b.Rank(x); r > k || k >= r+b.Count(x) {
			t.Fatalf("Kth(%d) = %d with Rank %d, Count %d", k, x, r, b.Count(x))
		}
	}
	if len(m) > 0 {
		x, ok := b.Min()
		number(t, "Min", x, ok, m[0], true)
		x, ok = b.Max()
		number(t, "Max", x, ok, m[len(m)-1], true)
	}
	sum, e := b.Sum()
	want, we := exactSum(items, 1)
	total(t, "Sum", sum, e, want, we)
	sum, e = b.Squares()
	want, we = exactSum(items, 2)
	total(t, "Squares", sum, e, want, we)
}

func (m model) compareAt(t *testing.T, b *bag.Bag, x int64) {
	t.Helper()
	at, _ := slices.BinarySearch(m, x)
	if b.Count(x) != m.count(x) || b.Rank(x) != at {
		t.Fatalf("Count(%d) = %d, Rank %d; expected %d, %d", x, b.Count(x), b.Rank(x), m.count(x), at)
	}
}

// P6.2 to P6.8
func TestRandomCalls(t *testing.T) {
	for seed := range uint64(60) {
		r := rand.New(rand.NewPCG(seed, 6))
		b, m := bag.New(), model{}
		shift := []int{0, 20, 31, 58}[seed%4]
		spread := 1 + r.Int64N(40)
		pick := func() int64 { return (r.Int64N(spread) - spread/2) << shift }
		bias := 3 + r.IntN(5)
		for range 150 {
			x, times := pick(), r.IntN(3)
			if r.IntN(10) < bias {
				add(t, b, x, times, api.OK)
				m.add(x, times)
			} else {
				remove(t, b, x, times, m.remove(x, times))
			}
			m.compareAt(t, b, x)
			m.compareAt(t, b, pick())
			if r.IntN(4) == 0 {
				m.compare(t, b)
				b = b.Copy()
			}
		}
		addAndRemove(t, b, pick(), r.IntN(5))
		m.compare(t, b)
	}
}

// addAndRemove adds and removes the same; P6.8.
func addAndRemove(t *testing.T, b *bag.Bag, x int64, times int) {
	t.Helper()
	add(t, b, x, times, api.OK)
	remove(t, b, x, times, api.OK)
}

// P6.8
func TestOrderOfTheCallsDoesNotMatter(t *testing.T) {
	for seed := range uint64(20) {
		r := rand.New(rand.NewPCG(seed, 8))
		n := 1 + r.IntN(60)
		want := bag.New()
		for x := range n {
			add(t, want, int64(x/2), 1+x%3, api.OK)
		}
		b := bag.New()
		for _, x := range r.Perm(n) {
			add(t, b, int64(x/2), 1+x%3, api.OK)
			add(t, b, int64(x), 2, api.OK)
		}
		for _, x := range r.Perm(n) {
			remove(t, b, int64(x), 2, api.OK)
		}
		if !slices.Equal(all(b), all(want)) {
			t.Fatalf("%v, expected %v", all(b), all(want))
		}
	}
}

// P6.4, P6.5: many numbers, in orders that a tree without balance is slow for.
func TestManyNumbers(t *testing.T) {
	const n = 60000
	for _, step := range []int64{1, -1} {
		b := bag.New()
		for i := range int64(n) {
			add(t, b, step*i, 1, api.OK)
		}
		for i := range int64(n) {
			if step < 0 {
				i = n - 1 - i
			}
			x, ok := b.Kth(int(i))
			want := i
			if step < 0 {
				want = i - n + 1
			}
			number(t, "Kth", x, ok, want, true)
		}
		for i := range int64(n) {
			remove(t, b, step*i, 1, api.OK)
			if b.Size() != n-1-int(i) || b.Distinct() != b.Size() {
				t.Fatalf("Size %d, Distinct %d", b.Size(), b.Distinct())
			}
		}
	}
}
