package histo_test

import (
	"math/big"
	"math/rand/v2"
	"slices"
	"testing"

	"seepage/api"
	"seepage/histo"
)

// item is a number with how often it was counted.
type item struct{ x, times int64 }

// counted returns the counts of numbers by the definition.
func counted(bounds []int64, items []item) []int64 {
	counts := make([]int64, len(bounds)+1)
	for _, it := range items {
		bucket := 0
		for _, bound := range bounds {
			if bound <= it.x {
				bucket++
			}
		}
		counts[bucket] += it.times
	}
	return counts
}

// P28.2 to P28.7
func TestByDefinition(t *testing.T) {
	for seed := range uint64(200) {
		r := rand.New(rand.NewPCG(seed, 28))
		var bounds []int64
		for range r.IntN(12) {
			bounds = append(bounds, r.Int64N(40)-20)
		}
		slices.Sort(bounds)
		bounds = slices.Compact(bounds)
		h, o := made(t, bounds...), made(t, bounds...)
		var first, second []item
		for range r.IntN(20) {
			it := item{r.Int64N(50) - 25, r.Int64N(5)}
			if r.IntN(2) == 0 {
				first = append(first, it)
				add(t, h, it.x, it.times, api.OK)
			} else {
				second = append(second, it)
				add(t, o, it.x, it.times, api.OK)
			}
		}
		compare(t, h, bounds, counted(bounds, first)...)
		compare(t, o, bounds, counted(bounds, second)...)
		merge(t, h, o, api.OK)
		both := slices.Concat(first, second)
		compare(t, h, bounds, counted(bounds, both)...)
		compare(t, o, bounds, counted(bounds, second)...)
		// In another order.
		other := made(t, bounds...)
		for _, i := range r.Perm(len(both)) {
			add(t, other, both[i].x, both[i].times, api.OK)
		}
		compare(t, other, bounds, h.Counts()...)
		checkQuantiles(t, r, h)
		for i := range bounds {
			fewer := slices.Delete(slices.Clone(bounds), i, i+1)
			compare(t, coarse(t, h, i), fewer, counted(fewer, both)...)
		}
		compare(t, h.Copy(), bounds, h.Counts()...)
	}
}

// P28.5: also with numbers whose products do not fit in 64 bits.
func TestGreatQuantiles(t *testing.T) {
	for seed := range uint64(100) {
		r := rand.New(rand.NewPCG(seed, 285))
		h := made(t, 1, 2, 3)
		for x := range int64(4) {
			add(t, h, x, r.Int64N(1<<61), api.OK)
		}
		checkQuantiles(t, r, h)
	}
}

func checkQuantiles(t *testing.T, r *rand.Rand, h *histo.Histogram) {
	t.Helper()
	total := h.Total()
	for k := range 12 {
		d := 1 + r.Int64N([]int64{8, 100, most}[k%3])
		n := r.Int64N(d)
		if k > 8 {
			n = d
		}
		if k == 6 && total > 0 {
			// Exactly the part that the first bucket has.
			n, d = h.Counts()[0], total
		}
		if total == 0 {
			quantile(t, h, n, d, 0, api.ErrNone)
			continue
		}
		need := new(big.Int).Mul(big.NewInt(n), big.NewInt(total))
		part, want := int64(0), 0
		for i, count := range h.Counts() {
			part += count
			want = i
			if new(big.Int).Mul(big.NewInt(part), big.NewInt(d)).Cmp(need) >= 0 {
				break
			}
		}
		quantile(t, h, n, d, want, api.OK)
	}
}
