package script_test

import (
	"math/rand/v2"
	"slices"
	"strings"
	"testing"

	"seepage/api"
	"seepage/codec"
	"seepage/engine"
	"seepage/reply"
	"seepage/script"
)

// command returns a random command that is valid.
func command(r *rand.Rand) api.Cmd {
	op := api.Op(1 + r.IntN(15))
	if r.IntN(2) == 0 {
		op = api.OpAdd
	}
	c := api.Cmd{Op: op}
	switch op {
	case api.OpAdd:
		c.U, c.V, c.W, c.T = r.Uint64N(6), r.Uint64N(6), r.Int64N(9)-4, r.Int64N(12)
	case api.OpTick:
		c.T = r.Int64N(20)
	case api.OpConnected, api.OpMinimax:
		c.U, c.V = r.Uint64N(6), r.Uint64N(6)
	case api.OpSize:
		c.U = r.Uint64()
	case api.OpCluster:
		c.U, c.W = r.Uint64N(6), int64(r.Uint64())
	case api.OpClusters:
		c.W = r.Int64N(9) - 4
	case api.OpRandom:
		for range r.IntN(9) {
			c.Draws = append(c.Draws, r.Uint64())
		}
	case api.OpHisto:
		c.W = r.Int64N(9) - 4
		for i := range r.IntN(4) {
			c.Bounds = append(c.Bounds, int64(i)*3-2)
		}
	}
	return c
}

// some returns a configuration, some commands, and their text.
func some(t *testing.T, r *rand.Rand) (api.Config, []api.Cmd, string) {
	t.Helper()
	c := config(1+r.Int64N(15), 1+r.IntN(8), 2+r.IntN(6), r.IntN(9))
	var l []api.Cmd
	for range r.IntN(30) {
		l = append(l, command(r))
	}
	text, e := script.Text(c, l)
	if e != api.OK {
		t.Fatalf("Text: error %d", e)
	}
	return c, l, text
}

// P45.6, P45.9, P45.10, G7
func TestScripts(t *testing.T) {
	for seed := range uint64(150) {
		r := rand.New(rand.NewPCG(seed, 45))
		c, l, text := some(t, r)
		reads(t, text, c, l...)
		frames, e := codec.PutAll(l)
		if e != api.OK {
			t.Fatalf("PutAll: error %d", e)
		}
		b, e := engine.Run(c, frames)
		if e != api.OK {
			t.Fatalf("engine.Run: error %d", e)
		}
		replies, e := reply.GetAll(b)
		if e != api.OK {
			t.Fatalf("GetAll: error %d", e)
		}
		var want []string
		for _, a := range replies {
			s, _ := reply.Line(a)
			want = append(want, s)
		}
		runs(t, text, want...)
		n := r.IntN(len(l) + 1)
		beginning, _ := script.Text(c, l[:n])
		runs(t, beginning, want[:n]...)
		for _, cmd := range l {
			s, _ := script.Line(cmd)
			line(t, cmd, s)
		}
	}
}

// P45.8: lines that are skipped, anywhere.
func TestSkippedLines(t *testing.T) {
	for seed := range uint64(100) {
		r := rand.New(rand.NewPCG(seed, 458))
		c, l, text := some(t, r)
		want, _, _ := script.Run(text)
		lines := strings.Split(strings.TrimSuffix(text, "\n"), "\n")
		bad := 0
		if len(l) > 0 && r.IntN(2) == 0 {
			bad = 1 + r.IntN(len(l))
			lines[bad] += "x"
		}
		at := bad + 1
		for range r.IntN(9) {
			i := r.IntN(len(lines) + 1)
			if i < at {
				at++
			}
			lines = slices.Insert(lines, i, []string{"", "#", "# add 1 2 3 4", "#\xff"}[r.IntN(4)])
		}
		more := strings.Join(lines, "\n")
		if bad > 0 {
			noScript(t, more, at, api.ErrForm)
			continue
		}
		reads(t, more, c, l...)
		runs(t, more, want...)
	}
}

// P45.7: whatever is read is written again.
func TestOneForm(t *testing.T) {
	words := []string{"add", "tick", "count", "random", "histo", "cluster", "0", "1", "-1", "12", "01", "", "-0", "18446744073709551615", "-5"}
	found := 0
	for seed := range uint64(20000) {
		r := rand.New(rand.NewPCG(seed, 457))
		l := []string{words[r.IntN(6)]}
		for range r.IntN(6) {
			l = append(l, words[6+r.IntN(len(words)-6)])
		}
		s := strings.Join(l, " ")
		if c, e := script.Parse(s); e == api.OK {
			found++
			line(t, c, s)
		}
	}
	if found < 1000 {
		t.Errorf("only %d lines", found)
	}
}
