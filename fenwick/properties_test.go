package fenwick_test

import (
	"math/rand/v2"
	"testing"

	"seepage/api"
	"seepage/fenwick"
)

// addToList is what Add is expected to do with a list of counters.
func addToList(l []int64, i int, d int64) api.Errno {
	if i < 0 || i >= len(l) {
		return api.ErrRange
	}
	if d < -l[i] {
		return api.ErrArg
	}
	room := int64(most)
	for _, n := range l {
		room -= n
	}
	if d > room {
		return api.ErrOver
	}
	l[i] += d
	return api.OK
}

// P7.2 to P7.7
func TestRandomCalls(t *testing.T) {
	for seed := range uint64(60) {
		r := rand.New(rand.NewPCG(seed, 7))
		n := 1 + r.IntN(40)
		c, l := made(t, n), make([]int64, n)
		spread := []int64{4, 1000, most / 3, most}[seed%4]
		for range 200 {
			i, d := r.IntN(n+2)-1, r.Int64N(spread)-spread/3
			add(t, c, i, d, addToList(l, i, d))
			if r.IntN(10) == 0 {
				compare(t, c, l)
				checkRanges(t, c, r)
				c = c.Copy()
			}
		}
	}
}

// checkRanges checks P7.7 for the sums of ranges.
func checkRanges(t *testing.T, counts *fenwick.Counts, r *rand.Rand) {
	t.Helper()
	for range 20 {
		a, b, c := r.IntN(counts.Len()+1), r.IntN(counts.Len()+1), r.IntN(counts.Len()+1)
		a, b, c = min(a, b, c), a+b+c-min(a, b, c)-max(a, b, c), max(a, b, c)
		sum := counts.Range(a, c)
		if counts.Range(a, b)+counts.Range(b, c) != sum || sum != counts.Prefix(c)-counts.Prefix(a) {
			t.Fatalf("Range(%d, %d, %d): %d", a, b, c, sum)
		}
		if a < c && counts.Range(c, a) != 0 {
			t.Fatalf("Range(%d, %d) = %d", c, a, counts.Range(c, a))
		}
	}
}

// P7.8
func TestFind(t *testing.T) {
	for seed := range uint64(40) {
		r := rand.New(rand.NewPCG(seed, 8))
		n := 1 + r.IntN(70)
		c := made(t, n)
		for range n {
			add(t, c, r.IntN(n), r.Int64N(5), api.OK)
		}
		found := make([]int64, n)
		last := 0
		for x := range c.Total() {
			i, ok := c.Find(x)
			if !ok || i < last || c.Get(i) == 0 || c.Prefix(i) > x || c.Prefix(i+1) <= x {
				t.Fatalf("Find(%d) = %d, %t after %d", x, i, ok, last)
			}
			found[i]++
			last = i
		}
		compare(t, c, found)
	}
}

// P7.9
func TestOrderOfTheCallsDoesNotMatter(t *testing.T) {
	for seed := range uint64(20) {
		r := rand.New(rand.NewPCG(seed, 9))
		n := 1 + r.IntN(50)
		c, l := made(t, n), make([]int64, n)
		type call struct {
			i int
			d int64
		}
		var calls []call
		for range 3 * n {
			k := call{r.IntN(n), r.Int64N(9)}
			calls = append(calls, k)
			l[k.i] += k.d
		}
		for _, k := range calls {
			add(t, c, k.i, k.d+5, api.OK)
		}
		for _, k := range r.Perm(len(calls)) {
			add(t, c, calls[k].i, -5, api.OK)
		}
		compare(t, c, l)
	}
}
