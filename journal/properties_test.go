package journal_test

import (
	"math/rand/v2"
	"slices"
	"testing"

	"seepage/api"
	"seepage/engine"
	"seepage/image"
	"seepage/journal"
)

// command returns a random command that is valid.
func command(r *rand.Rand) api.Cmd {
	switch r.IntN(6) {
	case 0:
		return tick(r.Int64N(40))
	case 1:
		return api.Cmd{Op: api.OpConnected, U: r.Uint64N(5), V: r.Uint64N(500)}
	case 2:
		return api.Cmd{Op: api.OpRandom, Draws: []uint64{r.Uint64(), 5}}
	default:
		return add(r.Uint64N(5), r.Uint64N(5), int64(r.Uint64()), r.Int64N(30))
	}
}

// P44.1, P44.2, P44.6
func TestThereAndBack(t *testing.T) {
	for seed := range uint64(100) {
		r := rand.New(rand.NewPCG(seed, 44))
		var b []byte
		var l []api.Cmd
		for range r.IntN(12) {
			c := command(r)
			l = append(l, c)
			want, _ := written(t, l...)
			appends(t, b, c, want, api.OK)
			b = want
			reads(t, b, len(b), l...)
		}
	}
}

// P44.6: journals that are cut off, or in which one byte is changed.
func TestDamage(t *testing.T) {
	for seed := range uint64(60) {
		r := rand.New(rand.NewPCG(seed, 446))
		var l []api.Cmd
		for range 1 + r.IntN(8) {
			l = append(l, command(r))
		}
		b, ends := written(t, l...)
		for n := range len(b) + 1 {
			whole, good := 0, 0
			for whole < len(ends) && ends[whole] <= n {
				good = ends[whole]
				whole++
			}
			reads(t, b[:n], good, l[:whole]...)
		}
		for at := range b {
			i, _ := slices.BinarySearch(ends, at+1)
			start := 0
			if i > 0 {
				start = ends[i-1]
			}
			if at == start {
				// The number of bytes, which is below 128 here.
				continue
			}
			other := slices.Clone(b)
			other[at] ^= byte(1 + r.IntN(255))
			reads(t, other, start, l[:i]...)
		}
	}
}

// P44.4 to P44.6: an image, a journal, and what compacting them in between changes.
func TestCompact(t *testing.T) {
	for seed := range uint64(100) {
		r := rand.New(rand.NewPCG(seed, 4465))
		e, _ := engine.New(config(1+r.Int64N(20), 1+r.IntN(6), 2+r.IntN(5), 5))
		first, _ := image.Save(e.Window())
		var l []api.Cmd
		for range r.IntN(30) {
			l = append(l, command(r))
			e.Do(l[len(l)-1])
		}
		cmds, errs := e.Done()
		b, _ := written(t, l...)
		recovered(t, first, b, e.Window(), cmds, errs)
		some := r.IntN(len(l) + 1)
		early, _ := written(t, l[:some]...)
		late, _ := written(t, l[some:]...)
		img, rest, err := journal.Compact(first, early)
		if err != api.OK || len(rest) != 0 {
			t.Fatalf("Compact: %v, error %d", rest, err)
		}
		again, n, err := journal.Recover(img, late)
		if !image.Equal(again.Window(), e.Window()) || n != len(l)-some || err != api.OK {
			t.Fatalf("Recover: %d commands, error %d", n, err)
		}
		// Only the commands that can change the state are needed.
		var needed []api.Cmd
		for _, c := range l {
			if journal.Changes(c) {
				needed = append(needed, c)
			}
		}
		short, _ := written(t, needed...)
		compacted(t, first, short, e.Window())
	}
}
