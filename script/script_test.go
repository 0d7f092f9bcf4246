package script_test

import (
	"math"
	"slices"
	"strings"
	"testing"

	"seepage/api"
	"seepage/script"
)

func config(length int64, edges, verts, draws int) api.Config {
	return api.Config{Window: length, Edges: edges, Verts: verts, Draws: draws}
}

// same reports whether two commands are the same; a nil list is the same as an empty one.
func same(a, b api.Cmd) bool {
	return a.Op == b.Op && a.U == b.U && a.V == b.V && a.W == b.W && a.T == b.T && slices.Equal(a.Draws, b.Draws) && slices.Equal(a.Bounds, b.Bounds)
}

// line expects the line of a valid command, and reads it again.
func line(t *testing.T, c api.Cmd, want string) {
	t.Helper()
	if got, e := script.Line(c); got != want || e != api.OK {
		t.Errorf("Line(%v) = %q, error %d; expected %q", c, got, e, want)
	}
	if got, e := script.Parse(want); !same(got, c) || e != api.OK {
		t.Errorf("Parse(%q) = %v, error %d; expected %v", want, got, e, c)
	}
}

// noLine expects that a string is no line of a command.
func noLine(t *testing.T, s string) {
	t.Helper()
	if c, e := script.Parse(s); !same(c, api.Cmd{}) || e != api.ErrForm {
		t.Errorf("Parse(%q) = %v, error %d", s[:min(len(s), 60)], c, e)
	}
}

// wrong expects that a command has no line, and no place in a script.
func wrong(t *testing.T, c api.Cmd, want api.Errno) {
	t.Helper()
	if s, e := script.Line(c); s != "" || e != want {
		t.Errorf("Line of Op %d = %q, error %d; expected %d", c.Op, s, e, want)
	}
	if s, e := script.Text(config(1, 1, 2, 0), []api.Cmd{{Op: api.OpCount}, c, {}}); s != "" || e != want {
		t.Errorf("Text with Op %d = %q, error %d; expected %d", c.Op, s, e, want)
	}
}

// reads expects the configuration and the commands of a script.
func reads(t *testing.T, s string, want api.Config, l ...api.Cmd) {
	t.Helper()
	if c, got, n, e := script.Read(s); c != want || !slices.EqualFunc(got, l, same) || n != 0 || e != api.OK {
		t.Errorf("Read(%q) = %v, %v, %d, error %d; expected %v, %v", s, c, got, n, e, want, l)
	}
}

// noScript expects the first line that is wrong, and its error.
func noScript(t *testing.T, s string, at int, want api.Errno) {
	t.Helper()
	if c, l, n, e := script.Read(s); c != (api.Config{}) || len(l) != 0 || n != at || e != want {
		t.Errorf("Read(%q) = %v, %v, %d, error %d; expected %d, error %d", s, c, l, n, e, at, want)
	}
	if l, n, e := script.Run(s); len(l) != 0 || n != at || e != want {
		t.Errorf("Run(%q) = %v, %d, error %d; expected %d, error %d", s, l, n, e, at, want)
	}
}

func runs(t *testing.T, s string, want ...string) {
	t.Helper()
	if l, n, e := script.Run(s); !slices.Equal(l, want) || n != 0 || e != api.OK {
		t.Errorf("Run(%q) = %q, %d, error %d; expected %q", s, l, n, e, want)
	}
}

// example is the chapter's script.
const example = `# two edges
window=10 edges=2

add 1 2 5 0
add 2 3 7 4
connected 1 3
minimax 1 3
add 1 3 9 9
tick 10
count
size 1
`

// P45.1, P45.2, P45.5: the chapter's examples.
func TestExamples(t *testing.T) {
	line(t, api.Cmd{Op: api.OpAdd, U: 1, V: 2, W: -5, T: 0}, "add 1 2 -5 0")
	line(t, api.Cmd{Op: api.OpRandom, Draws: []uint64{2, 0}}, "random 2 0")
	line(t, api.Cmd{Op: api.OpHisto, W: 6, Bounds: []int64{1, 3}}, "histo 6 1 3")
	line(t, api.Cmd{Op: api.OpSweep}, "sweep")
	runs(t, example, "add ok 1", "add ok 2", "connected ok yes", "minimax ok yes 7", "add error 12", "tick ok 1", "count ok 1 2 1", "size error 13")
	noScript(t, strings.Replace(example, "add 1 3 9 9", "add 1 3 9", 1), 8, api.ErrForm)
	noScript(t, strings.Replace(example, "window=10 edges=2", "window=0", 1), 2, api.ErrArg)
}

// P45.1
func TestWord(t *testing.T) {
	words := []string{"", "add", "tick", "connected", "size", "count", "cluster", "clusters", "minimax", "merges", "sweep", "random", "histo", "bridges", "cores", "stats"}
	for op, want := range words {
		if got := script.Word(api.Op(op)); got != want {
			t.Errorf("Word(%d) = %q, expected %q", op, got, want)
		}
	}
	for _, op := range []api.Op{-1, 16, 17, 99, 256, 257, math.MaxInt, math.MinInt} {
		if got := script.Word(op); got != "" {
			t.Errorf("Word(%d) = %q", op, got)
		}
	}
}

// P45.1, P45.2: each kind, with numbers at the ends of the range.
func TestKinds(t *testing.T) {
	line(t, api.Cmd{Op: api.OpAdd, U: math.MaxUint64, V: 0, W: math.MinInt64, T: math.MaxInt64}, "add 18446744073709551615 0 -9223372036854775808 9223372036854775807")
	line(t, api.Cmd{Op: api.OpTick, T: -1}, "tick -1")
	line(t, api.Cmd{Op: api.OpConnected, U: 3, V: 4}, "connected 3 4")
	line(t, api.Cmd{Op: api.OpSize, U: 10}, "size 10")
	line(t, api.Cmd{Op: api.OpCount}, "count")
	line(t, api.Cmd{Op: api.OpCluster, U: 5, W: -6}, "cluster 5 -6")
	line(t, api.Cmd{Op: api.OpClusters, W: 100}, "clusters 100")
	line(t, api.Cmd{Op: api.OpMinimax, U: 0, V: 9}, "minimax 0 9")
	line(t, api.Cmd{Op: api.OpMerges}, "merges")
	line(t, api.Cmd{Op: api.OpRandom}, "random")
	line(t, api.Cmd{Op: api.OpRandom, Draws: []uint64{math.MaxUint64}}, "random 18446744073709551615")
	line(t, api.Cmd{Op: api.OpHisto, W: math.MinInt64}, "histo -9223372036854775808")
	line(t, api.Cmd{Op: api.OpHisto, W: 0, Bounds: []int64{-3, 3, -3}}, "histo 0 -3 3 -3")
	line(t, api.Cmd{Op: api.OpBridges}, "bridges")
	line(t, api.Cmd{Op: api.OpCores}, "cores")
	line(t, api.Cmd{Op: api.OpStats, Draws: []uint64{}, Bounds: []int64{}}, "stats")
}

// P45.1, P45.3: commands that are not valid, and lists that are as long as they can be.
func TestWrong(t *testing.T) {
	for _, op := range []api.Op{0, -1, 16, 99} {
		wrong(t, api.Cmd{Op: op}, api.ErrArg)
	}
	wrong(t, api.Cmd{Op: api.OpTick, U: 1}, api.ErrArg)
	wrong(t, api.Cmd{Op: api.OpCount, Draws: []uint64{1}}, api.ErrArg)
	draws, bounds := make([]uint64, api.MaxDraws+1), make([]int64, 1025)
	wrong(t, api.Cmd{Op: api.OpRandom, Draws: draws}, api.ErrLong)
	wrong(t, api.Cmd{Op: api.OpHisto, Bounds: bounds}, api.ErrLong)
	noLine(t, "random"+strings.Repeat(" 0", api.MaxDraws+1))
	noLine(t, "histo 0"+strings.Repeat(" 0", 1025))
	line(t, api.Cmd{Op: api.OpRandom, Draws: draws[1:]}, "random"+strings.Repeat(" 0", api.MaxDraws))
	line(t, api.Cmd{Op: api.OpHisto, Bounds: bounds[1:]}, "histo 0"+strings.Repeat(" 0", 1024))
}

// P45.2: strings that are almost lines of commands.
func TestForms(t *testing.T) {
	for _, s := range []string{
		"", " ", "-", "#", "# add", "Add 1 2 3 4", "ad 1 2 3 4", "adds 1 2 3 4", "add", "add 1", "add 1 2", "add 1 2 3", "add 1 2 3 4 5", "add 1 2 3 4 ", " add 1 2 3 4", "add  1 2 3 4",
		"add 1 2 3  4", "add\t1 2 3 4", "add 1 2 3 4\n", "add 1 2 3 4\r", "add 1 2\n3 4", "add -1 2 3 4", "add 1 -2 3 4", "add +1 2 3 4", "add 01 2 3 4", "add 1 2 -0 4", "add 1 2 +3 4", "add 1 2 3 04",
		"add x 2 3 4", "add 1 2 3 x", "add 18446744073709551616 2 3 4", "add 1 2 9223372036854775808 4", "add 1 2 3 -9223372036854775809", "add 1 2 3.0 4", "add 1_0 2 3 4", "add 0x1 2 3 4",
		"tick", "tick 1 2", "tick ", "tick one", "connected 1", "connected 1 2 3", "size", "size -1", "size 1 2", "count 1", "count ", "cluster 1", "cluster 1 2 3", "clusters", "clusters 1 2",
		"minimax 1", "minimax 1 2 3", "merges 1", "sweep 0", "random -1", "random 1  2", "random ", "random 1 ", "random x", "random 01", "histo", "histo ", "histo x", "histo 1 x", "histo 1 ",
		"histo 1 2  3", "histo +1", "bridges 1", "cores x", "stats 1", "stat", "help", "add ok 1", "tick error 10", "- error 15",
	} {
		noLine(t, s)
	}
}

// P45.3
func TestText(t *testing.T) {
	c := config(10, 2, 4, 0)
	text := func(c api.Config, l []api.Cmd, want string, we api.Errno) {
		t.Helper()
		if got, e := script.Text(c, l); got != want || e != we {
			t.Errorf("Text(%v, %v) = %q, error %d; expected %q, error %d", c, l, got, e, want, we)
		}
	}
	text(c, nil, "window=10 edges=2 verts=4 draws=0\n", api.OK)
	text(c, []api.Cmd{{Op: api.OpTick, T: 5}, {Op: api.OpRandom}}, "window=10 edges=2 verts=4 draws=0\ntick 5\nrandom\n", api.OK)
	long := api.Cmd{Op: api.OpRandom, Draws: make([]uint64, api.MaxDraws+1)}
	text(api.Config{}, []api.Cmd{long}, "", api.ErrArg)
	text(api.Config{}, nil, "", api.ErrArg)
	text(c, []api.Cmd{{Op: api.OpCount}, long, {}}, "", api.ErrLong)
	text(c, []api.Cmd{{Op: api.OpCount}, {}, long}, "", api.ErrArg)
}

// P45.4: lines that are skipped, and texts that are no scripts.
func TestRead(t *testing.T) {
	tick, count := api.Cmd{Op: api.OpTick, T: 3}, api.Cmd{Op: api.OpCount}
	reads(t, "window=5", config(5, 1024, 1024, 1024))
	reads(t, "window=5\n", config(5, 1024, 1024, 1024))
	reads(t, "draws=0 verts=3\ntick 3\ncount", config(60, 1024, 3, 0), tick, count)
	reads(t, "\n\n#\n# window=7\n#x\nwindow=5\n\n\ntick 3\n#tick 4\n\ncount\n\n\n", config(5, 1024, 1024, 1024), tick, count)
	noScript(t, "", 0, api.ErrForm)
	noScript(t, "\n", 0, api.ErrForm)
	noScript(t, "#window=5", 0, api.ErrForm)
	noScript(t, "# a\n\n#\n", 0, api.ErrForm)
	noScript(t, " ", 1, api.ErrForm)
	noScript(t, " # a\nwindow=5", 1, api.ErrForm)
	noScript(t, "tick 3", 1, api.ErrForm)
	noScript(t, "\ntick 3\nwindow=5", 2, api.ErrForm)
	noScript(t, "window=5 window=5", 1, api.ErrForm)
	noScript(t, "#\nverts=1\nfoo", 2, api.ErrArg)
	noScript(t, "window=5\nwindow=5", 2, api.ErrForm)
	noScript(t, "window=5\r\ntick 3\r\n", 1, api.ErrForm)
	noScript(t, "window=5\ntick 3\r\n", 2, api.ErrForm)
	noScript(t, "window=5\n \n", 2, api.ErrForm)
	noScript(t, "window=5\n\ntick 3\n\n\ncount 1\ntick", 6, api.ErrForm)
	noScript(t, "window=5\n"+"random"+strings.Repeat(" 0", api.MaxDraws+1), 2, api.ErrForm)
}

// P45.5: a script without commands, and replies of each form.
func TestRun(t *testing.T) {
	runs(t, "window=5")
	runs(t, "window=5 draws=3\nadd 1 2 3 0\nadd 3 1 -4 1\nmerges\nclusters 0\nrandom 7\nrandom 1 2 3 4\nhisto 0 1 2\nbridges\ncores\nsweep\nstats\nconnected 2 3\nminimax 1 1\nadd 1 1 1 1",
		"add ok 1", "add ok 2", "merges ok 1 3 -4 1 2 3", "clusters ok 1 2 2 1", "random ok 1 3 3 2 2 5 3 1 9", "random error 14", "histo ok 0 1 1", "bridges ok 1 2",
		"cores ok 1 1 2 1 3 1", "sweep ok -4 2 2 5 3 3 1 9", "stats ok 1 2 2 0 1", "connected ok yes", "minimax ok yes -9223372036854775808", "add error 9")
}

// R4
func TestMemory(t *testing.T) {
	c := api.Cmd{Op: api.OpRandom, Draws: []uint64{1, 2, 3}[:2]}
	d := api.Cmd{Op: api.OpHisto, Bounds: []int64{1, 2, 3}[:2]}
	line(t, c, "random 1 2")
	line(t, d, "histo 0 1 2")
	if !slices.Equal(c.Draws[:3], []uint64{1, 2, 3}) || !slices.Equal(d.Bounds[:3], []int64{1, 2, 3}) {
		t.Errorf("%v, %v", c.Draws[:3], d.Bounds[:3])
	}
}
