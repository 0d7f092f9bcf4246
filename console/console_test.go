package console_test

import (
	"encoding/hex"
	"math"
	"slices"
	"strconv"
	"strings"
	"testing"

	"seepage/api"
	"seepage/console"
	"seepage/engine"
	"seepage/image"
	"seepage/journal"
)

// says expects the answer to a line.
func says(t *testing.T, c *console.Console, line string, want ...string) {
	t.Helper()
	if got := c.Say(line); !slices.Equal(got, want) {
		t.Errorf("Say(%q) = %q, expected %q", line[:min(len(line), 80)], got, want)
	}
}

// one returns the only line of an answer.
func one(t *testing.T, c *console.Console, line string) string {
	t.Helper()
	answer := c.Say(line)
	if len(answer) != 1 {
		t.Fatalf("Say(%q) = %q", line[:min(len(line), 80)], answer)
	}
	return answer[0]
}

// runs expects the answers to the lines of a text.
func runs(t *testing.T, text string, want ...string) {
	t.Helper()
	all := ""
	for _, line := range want {
		all += line + "\n"
	}
	if got, e := console.Run(text); got != all || e != api.OK {
		t.Errorf("Run(%q) = %q, error %d; expected %q", text[:min(len(text), 80)], got[:min(len(got), 200)], e, all[:min(len(all), 200)])
	}
}

// text returns the hexadecimal text of bytes.
func text(b []byte) string {
	if len(b) == 0 {
		return "-"
	}
	return hex.EncodeToString(b)
}

func config(length int64, edges, verts, draws int) api.Config {
	return api.Config{Window: length, Edges: edges, Verts: verts, Draws: draws}
}

func add(u, v uint64, w, at int64) api.Cmd {
	return api.Cmd{Op: api.OpAdd, U: u, V: v, W: w, T: at}
}

// imageOf returns the hexadecimal text of the image of a new engine that executes
// some commands.
func imageOf(t *testing.T, c api.Config, l ...api.Cmd) string {
	t.Helper()
	e, err := engine.New(c)
	if err != api.OK {
		t.Fatalf("engine.New: error %d", err)
	}
	for _, cmd := range l {
		e.Do(cmd)
	}
	b, err := image.Save(e.Window())
	if err != api.OK {
		t.Fatalf("Save: error %d", err)
	}
	return text(b)
}

// journalOf returns the journal of some commands.
func journalOf(t *testing.T, l ...api.Cmd) []byte {
	t.Helper()
	var b []byte
	for _, cmd := range l {
		var e api.Errno
		if b, e = journal.Append(b, cmd); e != api.OK {
			t.Fatalf("Append: error %d", e)
		}
	}
	return b
}

// P47.1: the chapter's examples.
func TestExamples(t *testing.T) {
	c := console.New()
	says(t, c, "add 1 2 5 0", "error 1")
	says(t, c, "new window=10 edges=2", "ok")
	says(t, c, "add 1 2 5 0", "add ok 1")
	says(t, c, "add 2 3 7 4", "add ok 2")
	says(t, c, "add 1 3 9 5", "add error 12")
	says(t, c, "connected 1 3", "connected ok yes")
	says(t, c, "done", "done 4 1")
	says(t, c, "audit", "ok")
	says(t, c, "restart", "ok 3")
	says(t, c, "done", "done 3 1")
	says(t, c, "count", "count ok 2 3 1")
	says(t, c, "compact", "ok")
	says(t, c, "journal", "-")
	says(t, c, "restart", "ok 0")
	says(t, c, "load 00", "error 15")
	says(t, c, "load 0", "error 15")
	says(t, c, "load -", "error 15")
	says(t, c, "new window=0", "error 2")
	says(t, c, "New", "error 15")
	says(t, c, "quit", "ok")
	says(t, c, "count", "error 1")
}

// help is what Help returns.
func help() []string {
	return []string{
		"new SETTINGS", "load IMAGE", "image", "journal", "replay JOURNAL", "restart", "compact", "audit", "done", "help", "quit", "add U V W T", "tick T", "connected U V", "size U", "count",
		"cluster U W", "clusters W", "minimax U V", "merges", "sweep", "random DRAWS", "histo W BOUNDS", "bridges", "cores", "stats",
	}
}

// P47.3
func TestHelp(t *testing.T) {
	if got := console.Help(); !slices.Equal(got, help()) {
		t.Errorf("Help = %q", got)
	}
	clear(console.Help())
	c := console.New()
	clear(c.Say("help"))
	says(t, c, "help", help()...)
	says(t, c, "new", "ok")
	says(t, c, "help", help()...)
	runs(t, "help", help()...)
}

// P47.1: without an engine.
func TestNoEngine(t *testing.T) {
	c := console.New()
	for range 2 {
		for _, line := range []string{"image", "journal", "restart", "compact", "audit", "done", "replay -", "replay 00", "tick 5", "count", "merges", "sweep", "random 1 2", "histo 0", "stats", "size 3"} {
			says(t, c, line, "error 1")
		}
		for _, line := range []string{"", "#", "# new", "#new", "#\n"} {
			says(t, c, line)
		}
		for _, line := range []string{"replay", "replay x", "replay 0", "load", "load x", "tick", "tick 5 6", "random x", "foo", " ", "  ", " new", "new ", "\n", "new\n"} {
			says(t, c, line, "error 15")
		}
		says(t, c, "quit", "ok")
		says(t, c, "new", "ok")
		says(t, c, "quit", "ok")
	}
}

// P47.1: lines that are no lines of a console.
func TestOtherLines(t *testing.T) {
	c := console.New()
	says(t, c, "new", "ok")
	says(t, c, "add 1 2 3 4", "add ok 1")
	for _, line := range []string{
		"New", "NEW", "new ", "new  ", "news", "ne", " new", "new\n", "new\t", "help ", "help me", "image ", "image -", "image 00", "journal ", "journal -", "restart ", "restart 1", "compact ",
		"compact 1", "audit ", "audit 1", "done ", "done 0", "quit ", "quit 1", "Quit", "load", "load ", "load 0", "load 0g", "load 0G", "load 0A", "load AB", "load 00 ", "load  00", "load 0x00",
		"load --", "load 00 00", "replay", "replay ", "replay 0", "replay zz", "replay 0A", "replay -0", "replay --", "add", "add 1 2 3", "add 1 2 3 4 5", "add  1 2 3 4", "add 01 2 3 4",
		"add ok 1", "tick", "tick x", "count 1", "count ", "sweep 1", "random 1 ", "- error 15", "error 1", "ok", "x", "\xff", "\r", " # a", "new window", "new window=5 ", "new  window=5", "new 5",
	} {
		says(t, c, line, "error 15")
	}
	for _, line := range []string{"new window=0", "new edges=0", "new verts=1", "new draws=16385"} {
		says(t, c, line, "error 2")
	}
	// Nothing has changed.
	says(t, c, "stats", "stats ok 4 1 1 0 0")
	says(t, c, "done", "done 2 0")
}

// P47.1: new.
func TestNew(t *testing.T) {
	c := console.New()
	says(t, c, "new", "ok")
	says(t, c, "image", imageOf(t, config(60, 1024, 1024, 1024)))
	says(t, c, "add 1 2 3 4", "add ok 1")
	says(t, c, "new edges=3 draws=0", "ok")
	says(t, c, "image", imageOf(t, config(60, 3, 1024, 0)))
	says(t, c, "journal", "-")
	says(t, c, "done", "done 0 0")
	says(t, c, "restart", "ok 0")
	says(t, c, "stats", "stats ok 0 0 0 0 0")
	says(t, c, "image", imageOf(t, config(60, 3, 1024, 0)))
}

// P47.1, P47.7: what is appended to the journal.
func TestJournal(t *testing.T) {
	c := console.New()
	says(t, c, "new window=10 edges=3", "ok")
	first := imageOf(t, config(10, 3, 1024, 1024))
	says(t, c, "image", first)
	l := []api.Cmd{add(1, 2, -5, 0), add(1, 1, 0, 0), {Op: api.OpTick, T: 7}, {Op: api.OpTick, T: 3}}
	says(t, c, "add 1 2 -5 0", "add ok 1")
	says(t, c, "count", "count ok 1 2 1")
	says(t, c, "merges", "merges ok 1 2 -5")
	says(t, c, "journal", text(journalOf(t, l[0])))
	says(t, c, "add 1 1 0 0", "add error 9")
	says(t, c, "tick 7", "tick ok 0")
	says(t, c, "tick 3", "tick error 10")
	says(t, c, "tick", "error 15")
	says(t, c, "size 9", "size error 13")
	says(t, c, "journal", text(journalOf(t, l...)))
	says(t, c, "image", imageOf(t, config(10, 3, 1024, 1024), l...))
	says(t, c, "done", "done 7 3")
	says(t, c, "stats", "stats ok 7 1 1 0 1")
	says(t, c, "restart", "ok 4")
	says(t, c, "done", "done 4 2")
	says(t, c, "stats", "stats ok 7 1 1 0 0")
	says(t, c, "journal", text(journalOf(t, l...)))
	says(t, c, "compact", "ok")
	says(t, c, "done", "done 5 2")
	says(t, c, "journal", "-")
	says(t, c, "image", imageOf(t, config(10, 3, 1024, 1024), l...))
	says(t, c, "tick 9", "tick ok 0")
	says(t, c, "journal", text(journalOf(t, api.Cmd{Op: api.OpTick, T: 9})))
	says(t, c, "restart", "ok 1")
	says(t, c, "stats", "stats ok 9 1 1 0 0")
}

// P47.1: load.
func TestLoad(t *testing.T) {
	conf := config(10, 3, 4, 5)
	img := imageOf(t, conf, add(1, 2, 3, 4), add(2, 3, 4, 5))
	c := console.New()
	says(t, c, "load "+img, "ok")
	says(t, c, "image", img)
	says(t, c, "journal", "-")
	says(t, c, "done", "done 0 0")
	says(t, c, "count", "count ok 2 3 1")
	says(t, c, "add 7 8 1 5", "add error 11")
	says(t, c, "add 1 3 1 6", "add ok 3")
	says(t, c, "restart", "ok 2")
	says(t, c, "stats", "stats ok 6 3 3 0 0")
	b, _ := hex.DecodeString(img)
	b[len(b)-1]++
	for line, want := range map[string]string{
		"load " + img[:len(img)-2]: "error 17", "load " + img + "00": "error 17", "load " + text(b): "error 17", "load " + img[:128]: "error 15", "load " + img[:len(img)-1]: "error 15",
		"load " + strings.ToUpper(img): "error 15", "load  " + img: "error 15", "load " + img + " ": "error 15", "load " + img + "\n": "error 15",
	} {
		says(t, c, line, want)
	}
	// An image whose configuration is not valid.
	b = b[:len(b)-4]
	b[12] = 0
	sum := image.Sum(b)
	b = append(b, byte(sum>>24), byte(sum>>16), byte(sum>>8), byte(sum))
	says(t, c, "load "+text(b), "error 2")
	says(t, c, "stats", "stats ok 6 3 3 0 0")
	says(t, c, "load "+img, "ok")
	says(t, c, "stats", "stats ok 5 2 2 0 0")
}

// P47.1: replay executes all commands of the valid records.
func TestReplay(t *testing.T) {
	l := []api.Cmd{add(1, 2, 3, 4), {Op: api.OpMerges}, add(2, 2, 4, 5), {Op: api.OpTick, T: 8}, {Op: api.OpRandom, Draws: []uint64{1}}}
	b := journalOf(t, l...)
	c := console.New()
	says(t, c, "replay "+text(b), "error 1")
	says(t, c, "new window=10", "ok")
	says(t, c, "replay -", "ok 0 0")
	says(t, c, "replay 00", "ok 0 0")
	says(t, c, "replay "+text(b), "ok 5 "+strconv.Itoa(len(b)))
	says(t, c, "done", "done 5 1")
	says(t, c, "stats", "stats ok 8 1 1 0 1")
	says(t, c, "journal", text(journalOf(t, l[0], l[2], l[3])))
	// Once more, and cut off: the first command is refused now.
	part := journalOf(t, l[0], l[1])
	says(t, c, "replay "+text(b[:len(part)+3]), "ok 2 "+strconv.Itoa(len(part)))
	says(t, c, "done", "done 8 2")
	says(t, c, "journal", text(journalOf(t, l[0], l[2], l[3], l[0])))
	says(t, c, "replay "+text(b)+"0", "error 15")
	says(t, c, "restart", "ok 4")
	says(t, c, "stats", "stats ok 8 1 1 0 0")
	says(t, c, "audit", "ok")
}

// P47.1: which bytes are hexadecimal digits.
func TestHexadecimal(t *testing.T) {
	c := console.New()
	says(t, c, "new", "ok")
	for x := range 256 {
		digit := string([]byte{byte(x)})
		want := "error 15"
		if strings.Contains("0123456789abcdef", digit) {
			want = "ok 0 0"
		}
		says(t, c, "replay 0"+digit, want)
		says(t, c, "replay "+digit+"0", want)
		says(t, c, "replay f"+digit+"00", want)
		says(t, c, "replay "+digit, map[bool]string{true: "ok 0 0", false: "error 15"}[digit == "-"])
	}
}

// P47.7: the console is compacted when the journal has more than 4096 bytes.
func TestCompacting(t *testing.T) {
	// A tick of a time up to 63 has a record of seven bytes, and one up to 8191 of eight.
	c := console.New()
	says(t, c, "new window=10", "ok")
	for range 584 {
		says(t, c, "tick 1", "tick ok 0")
	}
	says(t, c, "restart", "ok 584")
	says(t, c, "tick 100", "tick ok 0")
	// These are 585 * 7 + 1 = 4096 bytes.
	if got := one(t, c, "journal"); len(got) != 2*4096 {
		t.Errorf("%d bytes", len(got)/2)
	}
	says(t, c, "restart", "ok 585")
	says(t, c, "add 1 2 3 100", "add ok 1")
	says(t, c, "journal", "-")
	says(t, c, "restart", "ok 0")
	says(t, c, "stats", "stats ok 100 1 1 0 0")
	// With one byte more than 4096.
	for range 511 {
		says(t, c, "tick 100", "tick ok 0")
	}
	if got := one(t, c, "journal"); len(got) != 2*4088 {
		t.Errorf("%d bytes", len(got)/2)
	}
	says(t, c, "tick 9999", "tick ok 1")
	says(t, c, "journal", "-")
	says(t, c, "restart", "ok 0")
	says(t, c, "stats", "stats ok 9999 2 1 1 0")
	// Within a replay, too.
	var l []api.Cmd
	for i := range 600 {
		l = append(l, api.Cmd{Op: api.OpTick, T: 10000 + int64(i)})
	}
	b := journalOf(t, l...)
	says(t, c, "replay "+text(b), "ok 600 "+strconv.Itoa(len(b)))
	if got := one(t, c, "journal"); len(got) > 2*4096 || got == "-" {
		t.Errorf("%d bytes", len(got)/2)
	}
	says(t, c, "stats", "stats ok 10599 2 1 1 0")
	says(t, c, "done", "done 602 0")
	rest, _ := strconv.Atoi(strings.TrimPrefix(one(t, c, "restart"), "ok "))
	if rest <= 0 || rest >= 600 {
		t.Errorf("%d commands", rest)
	}
	says(t, c, "stats", "stats ok 10599 2 1 1 0")
}

// P47.1, P47.2: lines and texts that are as long as they can be, and longer.
func TestLong(t *testing.T) {
	const line, whole = 1 << 21, 1 << 22
	c := console.New()
	says(t, c, strings.Repeat("x", line), "error 15")
	says(t, c, strings.Repeat("x", line+1), "error 16")
	says(t, c, "new "+strings.Repeat("x", line), "error 16")
	says(t, c, "load "+strings.Repeat("0", line-4), "error 16")
	says(t, c, "load "+strings.Repeat("0", line-5), "error 15")
	says(t, c, "load "+strings.Repeat("0", line-6), "error 15")
	says(t, c, "tick "+strings.Repeat("0", line), "error 16")
	says(t, c, strings.Repeat("\n", line+1), "error 16")
	says(t, c, "#"+strings.Repeat("x", line))
	runs(t, "#"+strings.Repeat("x", whole-1))
	runs(t, strings.Repeat("\n", whole))
	runs(t, "#"+strings.Repeat("x", line)+"\n"+strings.Repeat("x", line-2), "error 15")
	runs(t, strings.Repeat("x", line+1)+"\nnew", "error 16", "ok")
	for _, n := range []int{whole + 1, whole + 2, 2 * whole} {
		if got, e := console.Run(strings.Repeat("\n", n)); got != "" || e != api.ErrLong {
			t.Errorf("Run of %d bytes: %d bytes, error %d", n, len(got), e)
		}
	}
	if got, e := console.Run("quit\n" + strings.Repeat("#", whole-4)); got != "" || e != api.ErrLong {
		t.Errorf("Run: %q, error %d", got, e)
	}
	runs(t, "quit\n"+strings.Repeat("#", whole-5), "ok")
}

// P47.2
func TestRun(t *testing.T) {
	runs(t, "")
	runs(t, "\n\n#\n")
	runs(t, "count", "error 1")
	runs(t, "count\n", "error 1")
	runs(t, "new window=5\n\n# edges\nadd 1 2 3 4\r\nadd 1 2 3 4\nquit\n\ncount", "ok", "error 15", "add ok 1", "ok", "error 1")
	// Each text has a console of its own.
	runs(t, "count", "error 1")
}

// P47.1, R2
func TestNotValid(t *testing.T) {
	for _, c := range []*console.Console{nil, {}} {
		for _, line := range []string{"", "#", "help", "new", "count", "quit", "foo", strings.Repeat("x", 1<<21+1)} {
			if got := c.Say(line); len(got) != 0 {
				t.Errorf("Say(%q) = %q", line[:min(len(line), 80)], got)
			}
		}
	}
	a, b := console.New(), console.New()
	says(t, a, "new", "ok")
	says(t, b, "count", "error 1")
	says(t, a, "count", "count ok 0 0 0")
}

// P47.1: numbers at the ends of the range, and replies of several numbers.
func TestReplies(t *testing.T) {
	c := console.New()
	says(t, c, "new window=1 edges=9", "ok")
	says(t, c, "add 18446744073709551615 0 -9223372036854775808 0", "add ok 1")
	says(t, c, "add 0 7 9223372036854775807 0", "add ok 2")
	says(t, c, "sweep", "sweep ok -9223372036854775808 2 2 5 9223372036854775807 3 1 9")
	says(t, c, "minimax 7 18446744073709551615", "minimax ok yes 9223372036854775807")
	says(t, c, "bridges", "bridges ok 1 2")
	says(t, c, "cores", "cores ok 0 1 7 1 18446744073709551615 1")
	says(t, c, "random 5", "random ok 1 3 3 2 2 5 3 1 9")
	says(t, c, "histo 0 1 2 3", "histo ok 0 1 1 0")
	says(t, c, "clusters "+strconv.FormatInt(math.MinInt64, 10), "clusters ok 0 2 7 1")
	says(t, c, "cluster 7 0", "cluster ok 7 1")
	says(t, c, "connected 7 0", "connected ok yes")
	says(t, c, "tick 9223372036854775807", "tick error 7")
	says(t, c, "tick 9223372036854775806", "tick ok 2")
	says(t, c, "merges", "merges ok")
	says(t, c, "stats", "stats ok 9223372036854775806 4 2 2 2")
}
