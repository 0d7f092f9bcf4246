package reply_test

import (
	"bytes"
	"math/rand/v2"
	"slices"
	"strings"
	"testing"

	"seepage/api"
	"seepage/reply"
)

// random returns a valid reply.
func random(r *rand.Rand) api.Reply {
	op := r.IntN(16)
	if op == 0 {
		return api.Reply{Err: api.ErrForm}
	}
	if r.IntN(4) == 0 {
		return api.Reply{Op: api.Op(op), Err: api.Errno(1 + r.IntN(18))}
	}
	x, n := table()[op], 0
	a := api.Reply{Op: api.Op(op)}
	switch x.number {
	case "one":
		n = 1
	case "any":
		n = r.IntN(6)
	case "none":
		a.Yes = r.IntN(2) == 0
	case "yes":
		n = r.IntN(2)
		a.Yes = n == 1
	}
	for range n * x.ids {
		a.IDs = append(a.IDs, r.Uint64()>>r.IntN(64))
	}
	for range n * x.nums {
		a.Nums = append(a.Nums, int64(r.Uint64()>>r.IntN(64))-int64(r.Uint64()>>r.IntN(64)))
	}
	return a
}

// P41.3, P41.6, P41.8
func TestThereAndBack(t *testing.T) {
	for seed := range uint64(400) {
		r := rand.New(rand.NewPCG(seed, 41))
		var l []api.Reply
		var all, last []byte
		for range r.IntN(6) {
			a := random(r)
			b, e := reply.Put(a)
			line, again := reply.Line(a)
			if e != api.OK || again != api.OK || strings.Contains(line, "\n") {
				t.Fatalf("Put, Line of %v: %q, errors %d, %d", a, line, e, again)
			}
			form(t, a, line, b...)
			l, all, last = append(l, a), append(all, b...), b
		}
		if got, e := reply.GetAll(all); !slices.EqualFunc(got, l, equal) || e != api.OK {
			t.Fatalf("GetAll = %v, error %d; expected %v", got, e, l)
		}
		if len(all) > 0 {
			if got, e := reply.GetAll(all[:len(all)-1]); len(got) != 0 || e != api.ErrForm {
				t.Fatalf("GetAll = %v, error %d", got, e)
			}
			if got, e := reply.GetAll(append(all, last[:len(last)-1]...)); len(got) != 0 || e != api.ErrForm {
				t.Fatalf("GetAll = %v, error %d", got, e)
			}
		}
	}
}

// P41.7: whatever is read is written again.
func TestOneForm(t *testing.T) {
	words := []string{"add", "minimax", "clusters", "bridges", "merges", "-", "ok", "error", "yes", "no", "0", "1", "-1", "01", "15", "", "connected", "size"}
	lines, replies := 0, 0
	for seed := range uint64(30000) {
		r := rand.New(rand.NewPCG(seed, 417))
		b := make([]byte, 3+r.IntN(6))
		for i := range b {
			b[i] = byte(r.IntN(3))
		}
		b[0] = byte(r.IntN(17))
		if a, n, e := reply.Get(b); e == api.OK {
			replies++
			if again, e := reply.Put(a); !bytes.Equal(again, b[:n]) || e != api.OK {
				t.Fatalf("Get(%v) = %v; Put = %v, error %d", b, a, again, e)
			}
		}
		l := []string{words[r.IntN(len(words))], words[6+r.IntN(2)]}
		for range r.IntN(4) {
			l = append(l, words[6+r.IntN(len(words)-6)])
		}
		s := strings.Join(l, " ")
		if a, e := reply.Parse(s); e == api.OK {
			lines++
			if again, e := reply.Line(a); again != s || e != api.OK {
				t.Fatalf("Parse(%q) = %v; Line = %q, error %d", s, a, again, e)
			}
		}
	}
	if lines < 500 || replies < 500 {
		t.Errorf("%d lines, %d replies", lines, replies)
	}
}

// R4
func TestMemory(t *testing.T) {
	a := api.Reply{Op: api.OpCores, IDs: ids(1, 2, 3)[:2], Nums: nums(4, 5, 6)[:2]}
	b, _ := reply.Put(a)
	whole := append(b, 77)
	got, n, _ := reply.Get(whole[:len(b)])
	clear(got.IDs)
	clear(got.Nums)
	if n != len(b) || whole[len(b)] != 77 || !slices.Equal(a.IDs[:3], ids(1, 2, 3)) || !slices.Equal(a.Nums[:3], nums(4, 5, 6)) {
		t.Errorf("%v, %v", whole, a)
	}
	form(t, a, "cores ok 1 4 2 5", b...)
}
