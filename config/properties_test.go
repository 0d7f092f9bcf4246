package config_test

import (
	"math/rand/v2"
	"strconv"
	"strings"
	"testing"

	"seepage/api"
	"seepage/config"
)

// valid returns a valid configuration, some fields of which are those of the default.
func valid(r *rand.Rand) api.Config {
	c := conf(1+r.Int64N(1<<uint(1+r.IntN(62))), 1+r.IntN(api.MaxEdges), 2+r.IntN(api.MaxVerts-1), r.IntN(api.MaxDraws+1))
	d := config.Default()
	if r.IntN(3) == 0 {
		c.Window = d.Window
	}
	if r.IntN(3) == 0 {
		c.Edges = d.Edges
	}
	if r.IntN(3) == 0 {
		c.Verts = d.Verts
	}
	if r.IntN(3) == 0 {
		c.Draws = d.Draws
	}
	return c
}

// settings returns the settings of a configuration, with the value of each.
func settings(c api.Config) (l []string, values []int64) {
	values = []int64{c.Window, int64(c.Edges), int64(c.Verts), int64(c.Draws)}
	for i, name := range []string{"window", "edges", "verts", "draws"} {
		l = append(l, name+"="+strconv.FormatInt(values[i], 10))
	}
	return l, values
}

// P39.3 to P39.6
func TestThereAndBack(t *testing.T) {
	for seed := range uint64(300) {
		r := rand.New(rand.NewPCG(seed, 39))
		c := valid(r)
		l, values := settings(c)
		text(t, c, strings.Join(l, " "), api.OK)
		parse(t, strings.Join(l, " "), c, api.OK)
		var want []byte
		for _, x := range values {
			for shift := 56; shift >= 0; shift -= 8 {
				want = append(want, byte(x>>shift))
			}
		}
		put(t, c, want, api.OK)
		get(t, want, c, 32, api.OK)
		get(t, append(want, byte(r.IntN(256))), c, 32, api.OK)
	}
}

// P39.8
func TestOrder(t *testing.T) {
	for seed := range uint64(300) {
		r := rand.New(rand.NewPCG(seed, 398))
		c := valid(r)
		l, values := settings(c)
		_, defaults := settings(config.Default())
		var some []string
		for _, i := range r.Perm(4) {
			if values[i] != defaults[i] || r.IntN(2) == 0 {
				some = append(some, l[i])
			}
		}
		parse(t, strings.Join(some, " "), c, api.OK)
		all := strings.Join(l, " ")
		for _, s := range []string{all[:len(all)-1], all + "0", all + " ", all + "\n", all + "x", all + string(rune('0'+r.IntN(10)))} {
			if got, e := config.Parse(s); got == c && e == api.OK {
				t.Errorf("Parse(%q) = Parse(%q)", s, all)
			}
		}
	}
}

// P39.2, P39.7: the nearest valid numbers of random ones.
func TestClamp(t *testing.T) {
	for seed := range uint64(300) {
		r := rand.New(rand.NewPCG(seed, 397))
		c := conf(r.Int64N(9)-4, r.IntN(40000)-10000, r.IntN(9000)-2000, r.IntN(40000)-10000)
		if seed%3 == 0 {
			c = conf(int64(r.Uint64()), int(r.Uint64()), int(r.Uint64()), int(r.Uint64()))
		}
		near := func(x, low, high int) int {
			if x < low {
				return low
			}
			if x > high {
				return high
			}
			return x
		}
		want := conf(int64(near(int(c.Window), 1, most)), near(c.Edges, 1, api.MaxEdges), near(c.Verts, 2, api.MaxVerts), near(c.Draws, 0, api.MaxDraws))
		field := ""
		switch {
		case c.Window != want.Window:
			field = "window"
		case c.Edges != want.Edges:
			field = "edges"
		case c.Verts != want.Verts:
			field = "verts"
		case c.Draws != want.Draws:
			field = "draws"
		}
		wrong(t, c, field, want)
	}
}
