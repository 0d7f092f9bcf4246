package clock_test

import (
	"math"
	"testing"

	"seepage/api"
	"seepage/clock"
)

const (
	least = math.MinInt64
	most  = math.MaxInt64
)

func made(t *testing.T, window int64) *clock.Clock {
	t.Helper()
	c, e := clock.New(window)
	if c == nil || e != api.OK {
		t.Fatalf("New(%d) = %v, error %d", window, c, e)
	}
	return c
}

// advance expects an error of Advance, and the same one of Check.
func advance(t *testing.T, c *clock.Clock, to int64, want api.Errno) {
	t.Helper()
	before := c.Now()
	if e := c.Check(to); e != want {
		t.Errorf("Check(%d): error %d, expected %d", to, e, want)
	}
	if c.Now() != before {
		t.Errorf("Check(%d) set the time to %d", to, c.Now())
	}
	if e := c.Advance(to); e != want {
		t.Errorf("Advance(%d): error %d, expected %d", to, e, want)
	}
	if want == api.OK {
		before = to
	}
	if c.Now() != before {
		t.Errorf("Advance(%d): the time is %d, expected %d", to, c.Now(), before)
	}
}

func expiry(t *testing.T, c *clock.Clock, at, want int64, we api.Errno) {
	t.Helper()
	if got, e := c.Expiry(at); got != want || e != we {
		t.Errorf("Expiry(%d) = %d, error %d; expected %d, error %d", at, got, e, want, we)
	}
}

func live(t *testing.T, c *clock.Clock, at int64, want bool) {
	t.Helper()
	if got := c.Live(at); got != want {
		t.Errorf("at %d: Live(%d) = %t", c.Now(), at, got)
	}
}

// P33.2 to P33.5: the chapter's examples.
func TestExamples(t *testing.T) {
	c := made(t, 10)
	if c.Now() != 0 || c.Window() != 10 {
		t.Errorf("Now %d, Window %d", c.Now(), c.Window())
	}
	expiry(t, c, -3, 7, api.OK)
	live(t, c, 0, true)
	live(t, c, -9, true)
	live(t, c, -10, false)
	live(t, c, 1, false)
	advance(t, c, 4, api.OK)
	advance(t, c, 3, api.ErrTime)
	advance(t, c, 4, api.OK)
	if e := c.Check(1<<63 - 10); e != api.ErrOver {
		t.Errorf("Check: error %d", e)
	}
	advance(t, c, 10, api.OK)
	live(t, c, 0, false)
	live(t, c, 1, true)
	live(t, c, 10, true)
	expiry(t, c, 1<<63-11, 1<<63-1, api.OK)
	expiry(t, c, 1<<63-10, 0, api.ErrOver)
}

// P33.1
func TestNew(t *testing.T) {
	for _, window := range []int64{0, -1, least} {
		if c, e := clock.New(window); c != nil || e != api.ErrArg {
			t.Errorf("New(%d) = %v, error %d", window, c, e)
		}
	}
	for _, window := range []int64{1, 2, most} {
		c := made(t, window)
		if c.Now() != 0 || c.Window() != window {
			t.Errorf("New(%d): Now %d, Window %d", window, c.Now(), c.Window())
		}
	}
}

// P33.3 to P33.5: with the least and the greatest window.
func TestEnds(t *testing.T) {
	c := made(t, most)
	advance(t, c, 0, api.OK)
	advance(t, c, 1, api.ErrOver)
	advance(t, c, most, api.ErrOver)
	advance(t, c, -1, api.ErrTime)
	advance(t, c, least, api.ErrTime)
	expiry(t, c, 0, most, api.OK)
	expiry(t, c, least, -1, api.OK)
	expiry(t, c, 1, 0, api.ErrOver)
	live(t, c, 0, true)
	live(t, c, -most, false)
	live(t, c, -most+1, true)
	live(t, c, least, false)
	live(t, c, 1, false)
	live(t, c, most, false)
	c = made(t, 1)
	live(t, c, 0, true)
	live(t, c, -1, false)
	live(t, c, 1, false)
	expiry(t, c, least, least+1, api.OK)
	expiry(t, c, most, 0, api.ErrOver)
	advance(t, c, most, api.ErrOver)
	advance(t, c, most-1, api.OK)
	advance(t, c, most, api.ErrOver)
	advance(t, c, most-2, api.ErrTime)
	live(t, c, most-1, true)
	live(t, c, most-2, false)
	live(t, c, most, false)
	live(t, c, least, false)
	expiry(t, c, most-1, most, api.OK)
}

// P33.6, R8
func TestCopy(t *testing.T) {
	a := made(t, 10)
	advance(t, a, 7, api.OK)
	b := a.Copy()
	if b.Now() != 7 || b.Window() != 10 {
		t.Errorf("Copy: Now %d, Window %d", b.Now(), b.Window())
	}
	advance(t, a, 20, api.OK)
	advance(t, b, 9, api.OK)
	advance(t, b, 8, api.ErrTime)
	if a.Now() != 20 || b.Now() != 9 {
		t.Errorf("Now %d and %d", a.Now(), b.Now())
	}
}

// R2
func TestNotValid(t *testing.T) {
	for _, c := range []*clock.Clock{nil, {}} {
		for _, at := range []int64{-1, 0, 1, least, most} {
			if e := c.Check(at); e != api.ErrNil {
				t.Errorf("Check(%d): error %d", at, e)
			}
			if e := c.Advance(at); e != api.ErrNil {
				t.Errorf("Advance(%d): error %d", at, e)
			}
			expiry(t, c, at, 0, api.ErrNil)
			live(t, c, at, false)
		}
		if c.Now() != 0 || c.Window() != 0 || c.Copy() != nil {
			t.Errorf("Now %d, Window %d, Copy %v", c.Now(), c.Window(), c.Copy())
		}
	}
}
