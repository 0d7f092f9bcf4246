package console_test

import (
	"math/rand/v2"
	"slices"
	"strconv"
	"strings"
	"testing"

	"seepage/console"
	"seepage/script"
)

// command returns the line of a random command.
func command(r *rand.Rand, now int64) string {
	number := func(n int64) string { return " " + strconv.FormatInt(n, 10) }
	u, v, w, at := number(r.Int64N(7)), number(r.Int64N(7)), number(r.Int64N(9)-4), number(now+r.Int64N(5)-1)
	switch r.IntN(20) {
	case 0:
		return "count"
	case 1:
		return "connected" + u + v
	case 2:
		return "clusters" + w
	case 3:
		return "minimax" + u + v
	case 4:
		return "merges"
	case 5:
		return "random" + u + v + u + v + u + v
	case 6:
		return "histo" + w + " 1 3"
	case 7:
		return "stats"
	case 8:
		return "cores"
	case 9, 10:
		return "tick" + at
	default:
		return "add" + u + v + w + at
	}
}

// settings returns the text of a random configuration.
func settings(r *rand.Rand) string {
	return "window=" + strconv.Itoa(1+r.IntN(20)) + " edges=" + strconv.Itoa(1+r.IntN(9)) + " verts=" + strconv.Itoa(2+r.IntN(6)) + " draws=" + strconv.Itoa(r.IntN(10))
}

// commands returns the lines of random commands, whose times are about increasing.
func commands(r *rand.Rand, from, n int) []string {
	var l []string
	for i := range n {
		l = append(l, command(r, int64(from+i)/2))
	}
	return l
}

// P47.4
func TestScripts(t *testing.T) {
	for seed := range uint64(100) {
		r := rand.New(rand.NewPCG(seed, 474))
		l := append([]string{settings(r)}, commands(r, 0, r.IntN(60))...)
		first := 0
		for range r.IntN(6) {
			at := r.IntN(len(l) + 1)
			if at <= first {
				first++
			}
			l = slices.Insert(l, at, []string{"", "#", "# new"}[r.IntN(3)])
		}
		want, _, e := script.Run(strings.Join(l, "\n"))
		if e != 0 {
			t.Fatalf("script.Run: error %d", e)
		}
		l[first] = "new " + l[first]
		runs(t, strings.Join(l, "\n"), append([]string{"ok"}, want...)...)
	}
}

// inner are lines that change nothing later answers depend on.
func inner(r *rand.Rand) string {
	return []string{"restart", "compact", "image", "journal", "audit", "done", "help", "", "# a", "foo", "load 00", "new edges=0", "replay -", "replay x", "count", "merges"}[r.IntN(16)]
}

// steady returns an answer without what may depend on such lines.
func steady(line string, answer []string) string {
	all := strings.Join(answer, "\n")
	if line == "stats" {
		return all[:strings.LastIndex(all, " ")]
	}
	return all
}

// P47.5, P47.7: other lines in between.
func TestRestarting(t *testing.T) {
	for seed := range uint64(60) {
		r := rand.New(rand.NewPCG(seed, 475))
		a, b := console.New(), console.New()
		start := "new " + settings(r)
		says(t, a, start, "ok")
		says(t, b, start, "ok")
		for _, line := range commands(r, 0, 150) {
			for range r.IntN(3) {
				other := inner(r)
				b.Say(other)
				if got := one(t, b, "journal"); len(got) > 2*4096 {
					t.Fatalf("the journal has %d bytes after %q", len(got)/2, other)
				}
				says(t, b, "audit", "ok")
			}
			x, y := a.Say(line), b.Say(line)
			if steady(line, x) != steady(line, y) {
				t.Fatalf("Say(%q) = %q, and %q with other lines before it", line, x, y)
			}
		}
		says(t, b, "image", one(t, a, "image"))
		says(t, b, "restart", one(t, b, "restart"))
		says(t, b, "image", one(t, a, "image"))
	}
}

// P47.6
func TestMoving(t *testing.T) {
	for seed := range uint64(60) {
		r := rand.New(rand.NewPCG(seed, 476))
		a, b := console.New(), console.New()
		says(t, a, "new "+settings(r), "ok")
		for _, line := range commands(r, 0, r.IntN(100)) {
			a.Say(line)
		}
		says(t, a, "compact", "ok")
		img := one(t, a, "image")
		says(t, b, "load "+img, "ok")
		says(t, b, "image", img)
		for _, line := range commands(r, 100, r.IntN(100)) {
			a.Say(line)
		}
		b.Say("replay " + one(t, a, "journal"))
		says(t, b, "image", one(t, a, "image"))
		says(t, b, "audit", "ok")
	}
}

// P47.8
func TestBeginnings(t *testing.T) {
	for seed := range uint64(40) {
		r := rand.New(rand.NewPCG(seed, 478))
		l := append([]string{"new " + settings(r)}, commands(r, 0, 80)...)
		for range 20 {
			l = slices.Insert(l, r.IntN(len(l)+1), []string{inner(r), "quit", "new", "image", "journal", "done"}[r.IntN(6)])
		}
		whole, e := console.Run(strings.Join(l, "\n"))
		if e != 0 {
			t.Fatalf("Run: error %d", e)
		}
		c := console.New()
		all := ""
		for n, line := range l {
			for _, answer := range c.Say(line) {
				all += answer + "\n"
			}
			if !strings.HasPrefix(whole, all) {
				t.Fatalf("%d lines answer %q, all lines %q", n+1, all, whole)
			}
		}
		if all != whole {
			t.Fatalf("%q, %q", all, whole)
		}
	}
}
