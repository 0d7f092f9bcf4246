package clock_test

import (
	"math/big"
	"math/rand/v2"
	"testing"

	"seepage/api"
)

// someTime returns a time that is often near 0, near the ends of the range, or
// near another time.
func someTime(r *rand.Rand, near int64) int64 {
	switch r.IntN(5) {
	case 0:
		return r.Int64N(41) - 20
	case 1:
		return most - r.Int64N(40)
	case 2:
		return least + r.Int64N(40)
	case 3:
		return int64(r.Uint64())
	default:
		return int64(uint64(near) + r.Uint64N(41) - 20)
	}
}

// sum returns a + b as an integer without limits.
func sum(a, b int64) *big.Int {
	return new(big.Int).Add(big.NewInt(a), big.NewInt(b))
}

// P33.3 to P33.5, P33.7 to P33.10: by the definitions, with exact sums.
func TestByDefinition(t *testing.T) {
	for seed := range uint64(300) {
		r := rand.New(rand.NewPCG(seed, 33))
		window := 1 + r.Int64N(30)
		if seed%3 == 0 {
			window = 1 + r.Int64N(most)
		}
		c, now := made(t, window), int64(0)
		for range 40 {
			at := someTime(r, now)
			end := sum(at, window)
			if end.IsInt64() {
				expiry(t, c, at, end.Int64(), api.OK)
			} else {
				expiry(t, c, at, 0, api.ErrOver)
			}
			live(t, c, at, at <= now && end.Cmp(big.NewInt(now)) > 0)
			live(t, c, now, true)
			switch {
			case at < now:
				advance(t, c, at, api.ErrTime)
			case !end.IsInt64():
				advance(t, c, at, api.ErrOver)
			default:
				advance(t, c, at, api.OK)
				now = at
			}
			advance(t, c, now, api.OK)
		}
	}
}

// P33.8, P33.9
func TestPassing(t *testing.T) {
	for window := int64(1); window < 12; window++ {
		c := made(t, window)
		gone := map[int64]bool{}
		for now := int64(0); now < 30; now++ {
			advance(t, c, now, api.OK)
			for at := int64(-15); at < 45; at++ {
				end, e := c.Expiry(at)
				live(t, c, at, at <= now && e == api.OK && end > now)
				if gone[at] && c.Live(at) {
					t.Errorf("an edge of %d is live again at %d", at, now)
				}
				gone[at] = at <= now && !c.Live(at)
			}
			for step := range window {
				later := c.Copy()
				advance(t, later, now+step, api.OK)
				live(t, later, now, true)
				advance(t, later, now+window, api.OK)
				live(t, later, now, false)
			}
		}
	}
}

// P33.10
func TestOrder(t *testing.T) {
	for seed := range uint64(300) {
		r := rand.New(rand.NewPCG(seed, 3310))
		c := made(t, 1+r.Int64N(1<<uint(1+r.IntN(62))))
		a := someTime(r, 0)
		b := someTime(r, a)
		a, b = min(a, b), max(a, b)
		first, e := c.Expiry(a)
		second, later := c.Expiry(b)
		if e != api.OK && later == api.OK {
			t.Errorf("Expiry(%d): error %d, and none of %d", a, e, b)
		}
		if later == api.OK && (first < second) != (a < b) {
			t.Errorf("Expiry(%d) = %d, Expiry(%d) = %d", a, first, b, second)
		}
	}
}

// P33.7: what was refused does not count.
func TestGreatest(t *testing.T) {
	c, greatest := made(t, 1<<62), int64(0)
	for seed := range uint64(300) {
		to := someTime(rand.New(rand.NewPCG(seed, 337)), greatest)
		if e := c.Advance(to); e == api.OK {
			greatest = max(greatest, to)
		}
		if c.Now() != greatest {
			t.Fatalf("Now %d after Advance(%d), expected %d", c.Now(), to, greatest)
		}
	}
}
