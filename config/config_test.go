package config_test

import (
	"bytes"
	"math"
	"slices"
	"testing"

	"seepage/api"
	"seepage/config"
)

const (
	least = math.MinInt64
	most  = math.MaxInt64
)

func conf(length int64, edges, verts, draws int) api.Config {
	return api.Config{Window: length, Edges: edges, Verts: verts, Draws: draws}
}

func parse(t *testing.T, s string, want api.Config, we api.Errno) {
	t.Helper()
	if got, e := config.Parse(s); got != want || e != we {
		t.Errorf("Parse(%q) = %v, error %d; expected %v, error %d", s, got, e, want, we)
	}
}

func text(t *testing.T, c api.Config, want string, we api.Errno) {
	t.Helper()
	if got, e := config.Text(c); got != want || e != we {
		t.Errorf("Text(%v) = %q, error %d; expected %q, error %d", c, got, e, want, we)
	}
}

func put(t *testing.T, c api.Config, want []byte, we api.Errno) {
	t.Helper()
	if got, e := config.Put(c); !bytes.Equal(got, want) || e != we {
		t.Errorf("Put(%v) = %v, error %d; expected %v, error %d", c, got, e, want, we)
	}
}

func get(t *testing.T, b []byte, want api.Config, n int, we api.Errno) {
	t.Helper()
	if got, k, e := config.Get(b); got != want || k != n || e != we {
		t.Errorf("Get(%v) = %v, %d, error %d; expected %v, %d, error %d", b, got, k, e, want, n, we)
	}
}

// wrong expects the first field that is not valid, and the nearest valid configuration.
func wrong(t *testing.T, c api.Config, field string, nearest api.Config) {
	t.Helper()
	want := api.OK
	if field != "" {
		want = api.ErrArg
	}
	if e := config.Check(c); e != want {
		t.Errorf("Check(%v): error %d, expected %d", c, e, want)
	}
	if got := config.Field(c); got != field {
		t.Errorf("Field(%v) = %q, expected %q", c, got, field)
	}
	got := config.Clamp(c)
	if got != nearest || config.Check(got) != api.OK || config.Clamp(got) != got {
		t.Errorf("Clamp(%v) = %v, expected %v", c, got, nearest)
	}
	if want != api.OK {
		text(t, c, "", want)
		put(t, c, nil, want)
	}
}

// sevens returns the bytes of four numbers below 256.
func sevens(numbers ...byte) []byte {
	var b []byte
	for _, x := range numbers {
		b = append(b, 0, 0, 0, 0, 0, 0, 0, x)
	}
	return b
}

// P39.1 to P39.5: the chapter's examples.
func TestExamples(t *testing.T) {
	text(t, config.Default(), "window=60 edges=1024 verts=1024 draws=1024", api.OK)
	parse(t, "", config.Default(), api.OK)
	parse(t, "draws=0 window=5", conf(5, 1024, 1024, 0), api.OK)
	for _, s := range []string{"window=05", "edges=1 ", "edges=1  verts=2", "edges=1 edges=2", "size=3", "window=9223372036854775808"} {
		parse(t, s, api.Config{}, api.ErrForm)
	}
	for _, s := range []string{"window=0", "verts=1", "edges=16385"} {
		parse(t, s, api.Config{}, api.ErrArg)
	}
	wrong(t, conf(60, 0, 1, 0), "edges", conf(60, 1, 2, 0))
	put(t, conf(1, 2, 3, 4), sevens(1, 2, 3, 4), api.OK)
	get(t, sevens(1, 2, 3, 4), conf(1, 2, 3, 4), 32, api.OK)
}

// P39.1, P39.2, P39.7
func TestFields(t *testing.T) {
	if config.Default() != conf(60, 1024, 1024, 1024) {
		t.Errorf("Default = %v", config.Default())
	}
	wrong(t, config.Default(), "", config.Default())
	for _, c := range []api.Config{conf(1, 1, 2, 0), conf(most, api.MaxEdges, api.MaxVerts, api.MaxDraws)} {
		wrong(t, c, "", c)
	}
	for _, x := range []int64{0, -1, least} {
		wrong(t, conf(x, 5, 6, 7), "window", conf(1, 5, 6, 7))
		wrong(t, conf(9, int(x), 6, 7), "edges", conf(9, 1, 6, 7))
		wrong(t, conf(9, 5, int(x), 7), "verts", conf(9, 5, 2, 7))
		wrong(t, conf(9, 5, 6, int(x)-1|math.MinInt), "draws", conf(9, 5, 6, 0))
	}
	wrong(t, conf(9, 5, 1, 7), "verts", conf(9, 5, 2, 7))
	wrong(t, conf(9, 5, 6, -1), "draws", conf(9, 5, 6, 0))
	wrong(t, conf(9, api.MaxEdges+1, 6, 7), "edges", conf(9, api.MaxEdges, 6, 7))
	wrong(t, conf(9, 5, api.MaxVerts+1, 7), "verts", conf(9, 5, api.MaxVerts, 7))
	wrong(t, conf(9, 5, 6, api.MaxDraws+1), "draws", conf(9, 5, 6, api.MaxDraws))
	wrong(t, conf(9, math.MaxInt, math.MaxInt, math.MaxInt), "edges", conf(9, api.MaxEdges, api.MaxVerts, api.MaxDraws))
	wrong(t, conf(9, 5, math.MaxInt, math.MinInt), "verts", conf(9, 5, api.MaxVerts, 0))
	wrong(t, api.Config{}, "window", conf(1, 1, 2, 0))
}

// P39.4: texts that have not the form of settings.
func TestForm(t *testing.T) {
	for _, s := range []string{
		" ", "  ", "window", "window=", "=", "=5", "5", "window=5=", "window==5", "window=5 5", " window=5", "window=5 ", "window=5\n", "window=5\tedges=1", "window=5,edges=1",
		"window= 5", "window =5", "Window=5", "WINDOW=5", "windo=5", "windows=5", "window=+5", "window=-5", "window=-0", "window=00", "window=01", "window=0x5", "window=5_0", "window=1e3",
		"window=5.0", "window=٥", "window=5 window=5", "window=5 edges=1 window=6", "window=5 size=1", "size=1 window=5", "edges=9223372036854775808", "window=10000000000000000000",
		"window=99999999999999999999", "window=18446744073709551617", "draws=\x00", "window=5 edges", "edges verts=3", "\xff", "window=5 edges=", "window=five",
		// The form comes before the numbers.
		"window=0 size=1", "window=0 window=1", "edges=16385 ", "verts=1 x=",
	} {
		parse(t, s, api.Config{}, api.ErrForm)
	}
	for _, s := range []string{"edges=0", "verts=0", "verts=4097", "draws=16385", "edges=9223372036854775807", "window=0 edges=0 verts=0 draws=99999", "draws=16385 window=7", "edges=4294967297"} {
		parse(t, s, api.Config{}, api.ErrArg)
	}
	parse(t, "window=9223372036854775807 edges=16384 verts=4096 draws=16384", conf(most, 16384, 4096, 16384), api.OK)
	parse(t, "draws=0", conf(60, 1024, 1024, 0), api.OK)
	parse(t, "window=1", conf(1, 1024, 1024, 1024), api.OK)
	parse(t, "edges=1", conf(60, 1, 1024, 1024), api.OK)
	parse(t, "verts=2", conf(60, 1024, 2, 1024), api.OK)
}

// P39.5: bytes that are not those of a valid configuration.
func TestGet(t *testing.T) {
	good := sevens(1, 2, 3, 4)
	for n := range 32 {
		get(t, good[:n], api.Config{}, 0, api.ErrForm)
	}
	get(t, sevens(0, 0, 0)[:24], api.Config{}, 0, api.ErrForm)
	get(t, nil, api.Config{}, 0, api.ErrForm)
	get(t, append(slices.Clone(good), 9, 9), conf(1, 2, 3, 4), 32, api.OK)
	for _, bad := range [][]byte{sevens(0, 2, 3, 4), sevens(1, 0, 3, 4), sevens(1, 2, 1, 4), make([]byte, 32)} {
		get(t, bad, api.Config{}, 0, api.ErrArg)
		get(t, append(bad, 0), api.Config{}, 0, api.ErrArg)
	}
	// Each of the highest bits makes a number that is not valid, but for those of the window.
	for i := range 4 {
		for k := range 5 {
			b := slices.Clone(good)
			b[8*i+k] = 128
			if i == 0 && k > 0 {
				get(t, b, conf(1<<(63-8*k)+1, 2, 3, 4), 32, api.OK)
			} else {
				get(t, b, api.Config{}, 0, api.ErrArg)
			}
		}
	}
	minus := slices.Repeat([]byte{255}, 32)
	get(t, minus, api.Config{}, 0, api.ErrArg)
	top := append([]byte{127, 255, 255, 255, 255, 255, 255, 255, 0, 0, 0, 0, 0, 0, 64, 0, 0, 0, 0, 0, 0, 0, 16, 0}, 0, 0, 0, 0, 0, 0, 64, 0)
	get(t, top, conf(most, api.MaxEdges, api.MaxVerts, api.MaxDraws), 32, api.OK)
	put(t, conf(most, api.MaxEdges, api.MaxVerts, api.MaxDraws), top, api.OK)
}

// R4
func TestMemory(t *testing.T) {
	b := sevens(1, 2, 3, 4, 5)
	get(t, b, conf(1, 2, 3, 4), 32, api.OK)
	if !bytes.Equal(b, sevens(1, 2, 3, 4, 5)) {
		t.Errorf("%v", b)
	}
	first, _ := config.Put(conf(1, 2, 3, 4))
	clear(first)
	put(t, conf(1, 2, 3, 4), sevens(1, 2, 3, 4), api.OK)
}
