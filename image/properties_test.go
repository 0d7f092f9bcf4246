package image_test

import (
	"bytes"
	"math/rand/v2"
	"slices"
	"testing"

	"seepage/api"
	"seepage/image"
	"seepage/window"
)

// step does the same with some windows, and expects the same errors.
func step(t *testing.T, r *rand.Rand, windows ...*window.Window) {
	t.Helper()
	now := windows[0].Now()
	record, to := rec(r.Uint64N(7), r.Uint64N(7), int64(r.Uint64()), now+r.Int64N(5)-1), now+r.Int64N(6)-1
	ticks := r.IntN(5) == 0
	first := api.OK
	for i, w := range windows {
		got := api.OK
		if ticks {
			got = w.Tick(to)
		} else {
			got = w.Add(record)
		}
		if i == 0 {
			first = got
		} else if got != first {
			t.Fatalf("errors %d and %d", first, got)
		}
	}
}

// random returns a window with a history.
func random(t *testing.T, r *rand.Rand) *window.Window {
	w := made(t, config(1+r.Int64N(15), 1+r.IntN(8), 2+r.IntN(6), r.IntN(9)))
	for range r.IntN(40) {
		step(t, r, w)
	}
	return w
}

// records returns the records of the live edges.
func records(w *window.Window) []api.Rec {
	var l []api.Rec
	for _, live := range w.Live() {
		l = append(l, live.Rec)
	}
	return l
}

// P43.2, P43.3, P43.5
func TestThereAndBack(t *testing.T) {
	for seed := range uint64(150) {
		r := rand.New(rand.NewPCG(seed, 43))
		w := random(t, r)
		added, expired := w.Added()
		b := summed(parts{c: w.Config(), now: w.Now(), added: added, expired: expired, l: records(w)}.body())
		save(t, w, b)
		again := load(t, b)
		for range 30 {
			step(t, r, w, again)
			equal(t, w, again, true)
			for u := range uint64(7) {
				a, e := w.Size(u)
				if b, too := again.Size(u); a != b || e != too {
					t.Fatalf("Size(%d) = %d, error %d; %d, error %d", u, a, e, b, too)
				}
				x, ok, _ := w.Until(u, 3)
				if y, is, _ := again.Until(u, 3); x != y || ok != is {
					t.Fatalf("Until(%d, 3) = %d, %t; %d, %t", u, x, ok, y, is)
				}
			}
		}
	}
}

// P43.6: damage of up to four bytes in a row, and images that begin alike.
func TestDamage(t *testing.T) {
	for seed := range uint64(400) {
		r := rand.New(rand.NewPCG(seed, 436))
		b, e := image.Save(random(t, r))
		if e != api.OK {
			t.Fatalf("Save: error %d", e)
		}
		from, to := 0, len(b)-4
		if r.IntN(4) == 0 {
			from, to = to, len(b)
		}
		n := 1 + r.IntN(4)
		at := from + r.IntN(to-from-n+1)
		other := slices.Clone(b)
		for i := at; i < at+n; i++ {
			other[i] ^= byte(r.IntN(256))
		}
		if e := image.Check(other); (e == api.OK) != bytes.Equal(b, other) {
			t.Fatalf("Check of a damaged image: error %d", e)
		}
		if e := image.Check(b[:r.IntN(len(b))]); e == api.OK {
			t.Fatalf("the beginning of an image is one")
		}
		if e := image.Check(append(b, byte(r.IntN(256)))); e == api.OK {
			t.Fatalf("an image with one more byte is one")
		}
	}
}

// P43.4, P43.7
func TestEqualByParts(t *testing.T) {
	same := 0
	for seed := range uint64(60) {
		var l []*window.Window
		for k := range uint64(6) {
			r := rand.New(rand.NewPCG(seed, 437+k%2))
			w := made(t, config(1+int64(k/4), 2, 3, 0))
			for range r.IntN(3) {
				w.Add(rec(r.Uint64N(2), 2, 0, r.Int64N(2)))
			}
			w.Tick(w.Now() + r.Int64N(3))
			l = append(l, w)
		}
		for _, a := range l {
			for _, b := range l {
				x, y := a.Added()
				v, w := b.Added()
				want := a.Config() == b.Config() && a.Now() == b.Now() && x == v && y == w && slices.Equal(records(a), records(b))
				equal(t, a, b, want)
				if want && a != b {
					same++
				}
			}
		}
	}
	if same < 100 {
		t.Errorf("%d pairs are equal", same)
	}
}
