package journal_test

import (
	"bytes"
	"encoding/binary"
	"hash/crc32"
	"math"
	"slices"
	"testing"

	"seepage/api"
	"seepage/codec"
	"seepage/engine"
	"seepage/image"
	"seepage/journal"
	"seepage/window"
)

func config(length int64, edges, verts, draws int) api.Config {
	return api.Config{Window: length, Edges: edges, Verts: verts, Draws: draws}
}

func add(u, v uint64, w, at int64) api.Cmd {
	return api.Cmd{Op: api.OpAdd, U: u, V: v, W: w, T: at}
}

func tick(at int64) api.Cmd {
	return api.Cmd{Op: api.OpTick, T: at}
}

// same reports whether two commands have the same frame.
func same(a, b api.Cmd) bool {
	x, e := codec.Put(a)
	y, too := codec.Put(b)
	return e == api.OK && too == api.OK && bytes.Equal(x, y)
}

// record returns the record of a frame behind a journal.
func record(b, frame []byte) []byte {
	last := make([]byte, 4)
	if len(b) > 0 {
		last = b[len(b)-4:]
	}
	return binary.BigEndian.AppendUint32(slices.Clone(frame), crc32.ChecksumIEEE(slices.Concat(last, frame)))
}

// written returns the journal of some commands, and where each record ends.
func written(t *testing.T, l ...api.Cmd) (b []byte, ends []int) {
	t.Helper()
	for _, c := range l {
		frame, e := codec.Put(c)
		if e != api.OK {
			t.Fatalf("Put: error %d", e)
		}
		b = append(b, record(b, frame)...)
		ends = append(ends, len(b))
	}
	return b, ends
}

func appends(t *testing.T, b []byte, c api.Cmd, want []byte, we api.Errno) {
	t.Helper()
	kept := slices.Clone(b)
	if got, e := journal.Append(b, c); !bytes.Equal(got, want) || e != we {
		t.Errorf("Append(%v, %v) = %v, error %d; expected %v, error %d", b, c, got, e, want, we)
	}
	if !bytes.Equal(b, kept) {
		t.Errorf("Append has changed the journal")
	}
}

// reads expects the commands of the valid records, and how many bytes these have.
func reads(t *testing.T, b []byte, good int, want ...api.Cmd) {
	t.Helper()
	if l, n := journal.Read(b); !slices.EqualFunc(l, want, same) || n != good {
		t.Errorf("Read(%v) = %v, %d; expected %v, %d", b, l, n, want, good)
	}
	if got := journal.Repair(b); !bytes.Equal(got, b[:good]) {
		t.Errorf("Repair(%v) = %v, expected %d bytes", b, got, good)
	}
}

func changes(t *testing.T, c api.Cmd, want bool) {
	t.Helper()
	if got := journal.Changes(c); got != want {
		t.Errorf("Changes of Op %d = %t", c.Op, got)
	}
}

// recovered expects that an image and a journal describe a window, which is reached
// by so many commands.
func recovered(t *testing.T, saved, b []byte, want *window.Window, cmds, errs uint64) *engine.Engine {
	t.Helper()
	e, n, err := journal.Recover(saved, b)
	if e == nil || n != int(cmds) || err != api.OK {
		t.Fatalf("Recover = %v, %d, error %d; expected %d", e, n, err, cmds)
	}
	if !image.Equal(e.Window(), want) {
		t.Errorf("Recover: %v, expected %v", e.Window().Live(), want.Live())
	}
	if x, y := e.Done(); x != cmds || y != errs {
		t.Errorf("Done = %d, %d; expected %d, %d", x, y, cmds, errs)
	}
	return e
}

func compacted(t *testing.T, saved, b []byte, want *window.Window) []byte {
	t.Helper()
	img, rest, e := journal.Compact(saved, b)
	whole, _ := image.Save(want)
	if !bytes.Equal(img, whole) || len(rest) != 0 || e != api.OK {
		t.Errorf("Compact = %d bytes, %v, error %d; expected %d bytes", len(img), rest, e, len(whole))
	}
	return img
}

// saved returns the image of a window, which is new, but for some records.
func saved(t *testing.T, c api.Config, l ...api.Rec) []byte {
	t.Helper()
	w, e := window.New(c)
	if e != api.OK {
		t.Fatalf("window.New: error %d", e)
	}
	for _, r := range l {
		w.Add(r)
	}
	b, e := image.Save(w)
	if e != api.OK {
		t.Fatalf("Save: error %d", e)
	}
	return b
}

// P44.1 to P44.3: the chapter's examples.
func TestExamples(t *testing.T) {
	sum := crc32.ChecksumIEEE([]byte{0, 0, 0, 0, 1, 15})
	b := []byte{1, 15, byte(sum >> 24), byte(sum >> 16), byte(sum >> 8), byte(sum)}
	appends(t, nil, api.Cmd{Op: api.OpStats}, b, api.OK)
	reads(t, b, 6, api.Cmd{Op: api.OpStats})
	reads(t, b[:5], 0)
	appends(t, b[:5], api.Cmd{Op: api.OpStats}, nil, api.ErrForm)
	appends(t, nil, api.Cmd{Op: api.OpTick, U: 1}, nil, api.ErrArg)
	changes(t, tick(5), true)
	changes(t, api.Cmd{Op: api.OpCount}, false)
	changes(t, api.Cmd{Op: api.OpTick, U: 1}, false)
}

// P44.1: the order of the errors.
func TestAppend(t *testing.T) {
	long := api.Cmd{Op: api.OpRandom, Draws: make([]uint64, api.MaxDraws+1)}
	bad := [][]byte{{0}, {1}, {1, 15}, {1, 15, 0, 0, 0, 0}, {9, 9, 9, 9, 9, 9, 9}}
	for _, b := range bad {
		appends(t, b, tick(5), nil, api.ErrForm)
		appends(t, b, api.Cmd{}, nil, api.ErrArg)
		appends(t, b, api.Cmd{Op: 16}, nil, api.ErrArg)
		appends(t, b, long, nil, api.ErrLong)
	}
	long.U = 1
	appends(t, nil, long, nil, api.ErrArg)
	long.U, long.Draws = 0, long.Draws[1:]
	whole, _ := written(t, long, tick(3))
	appends(t, nil, long, whole[:len(whole)-7], api.OK)
	appends(t, whole[:len(whole)-7], tick(3), whole, api.OK)
	appends(t, whole[:len(whole)-1], tick(3), nil, api.ErrForm)
	appends(t, append(slices.Clone(whole), 0), tick(3), nil, api.ErrForm)
	// The same record has another checksum behind another one.
	b, ends := written(t, tick(1), tick(1), tick(1))
	appends(t, b[:ends[0]], tick(1), b[:ends[1]], api.OK)
	appends(t, b[:ends[1]], tick(1), b, api.OK)
	appends(t, b[ends[0]:], tick(1), nil, api.ErrForm)
	appends(t, slices.Concat(b[:ends[0]], b[:ends[0]]), tick(1), nil, api.ErrForm)
}

// P44.3: all kinds of commands.
func TestChanges(t *testing.T) {
	for op := api.Op(-1); op < 20; op++ {
		changes(t, api.Cmd{Op: op}, op == api.OpAdd || op == api.OpTick)
	}
	changes(t, add(1, 1, 1, 1), true)
	changes(t, api.Cmd{Op: api.OpAdd, Draws: []uint64{1}}, false)
	changes(t, api.Cmd{Op: api.OpAdd, Bounds: []int64{0}}, false)
	changes(t, api.Cmd{Op: api.OpRandom, Draws: []uint64{1}}, false)
	changes(t, api.Cmd{Op: math.MaxInt}, false)
}

// P44.2: records in the wrong order, missing, or repeated.
func TestRead(t *testing.T) {
	l := []api.Cmd{add(1, 2, -3, 4), tick(500), {Op: api.OpHisto, W: 3, Bounds: []int64{1, 2}}, {Op: api.OpCount}}
	b, ends := written(t, l...)
	reads(t, nil, 0)
	reads(t, b, len(b), l...)
	reads(t, append(slices.Clone(b), 1), len(b), l...)
	reads(t, slices.Concat(b, b), len(b), l...)
	reads(t, b[ends[0]:], 0)
	reads(t, slices.Concat(b[:ends[0]], b[ends[1]:]), ends[0], l[0])
	reads(t, slices.Concat(b[:ends[0]], b[ends[1]:ends[2]], b[ends[0]:ends[1]]), ends[0], l[0])
	// A frame that is not valid, with its checksum.
	for _, frame := range [][]byte{{}, {0}, {1, 0}, {1, 16}, {2, 5, 0}, {1, 2}} {
		reads(t, slices.Concat(b, record(b, frame)), len(b), l...)
		reads(t, record(nil, frame), 0)
	}
	// A checksum that does not depend on the record before.
	alone, _ := written(t, tick(1))
	reads(t, slices.Concat(b, alone), len(b), l...)
}

// P44.4, P44.5
func TestRecover(t *testing.T) {
	c := config(10, 3, 4, 5)
	first := saved(t, c, api.Rec{U: 1, V: 2, W: 3, T: 0})
	l := []api.Cmd{add(2, 3, 5, 4), add(2, 2, 5, 5), {Op: api.OpMerges}, add(1, 3, 5, 3), tick(10), {Op: api.OpCount}}
	b, ends := written(t, l...)
	w, _ := image.Load(first)
	recovered(t, first, nil, w, 0, 0)
	compacted(t, first, nil, w)
	w.Add(api.Rec{U: 2, V: 3, W: 5, T: 4})
	recovered(t, first, b[:ends[0]], w, 1, 0)
	recovered(t, first, b[:ends[1]-1], w, 1, 0)
	recovered(t, first, b[:ends[3]], w, 4, 2)
	compacted(t, first, b[:ends[3]], w)
	if e := recovered(t, first, b[:ends[2]], w, 3, 1); e.Builds() != 1 {
		t.Errorf("Builds = %d", e.Builds())
	}
	w.Tick(10)
	recovered(t, first, b, w, 6, 2)
	recovered(t, first, append(b, 7), w, 6, 2)
	img := compacted(t, first, append(b, 7), w)
	recovered(t, img, nil, w, 0, 0)
	for _, bad := range []struct {
		b    []byte
		want api.Errno
	}{{nil, api.ErrForm}, {first[:64], api.ErrForm}, {append(slices.Clone(first), 0), api.ErrSum}} {
		if e, n, err := journal.Recover(bad.b, b); e != nil || n != 0 || err != bad.want {
			t.Errorf("Recover = %v, %d, error %d; expected %d", e, n, err, bad.want)
		}
		if x, y, err := journal.Compact(bad.b, b); len(x) != 0 || len(y) != 0 || err != bad.want {
			t.Errorf("Compact = %v, %v, error %d; expected %d", x, y, err, bad.want)
		}
	}
	wrong := slices.Clone(first[:len(first)-4])
	wrong[12] = 0
	wrong = binary.BigEndian.AppendUint32(wrong, crc32.ChecksumIEEE(wrong))
	if e, n, err := journal.Recover(wrong, b); e != nil || n != 0 || err != api.ErrArg {
		t.Errorf("Recover = %v, %d, error %d", e, n, err)
	}
}

// R4
func TestMemory(t *testing.T) {
	b, ends := written(t, tick(1), tick(2))
	kept := slices.Clone(b)
	got, e := journal.Append(b[:ends[0]], tick(3))
	if e != api.OK {
		t.Fatalf("Append: error %d", e)
	}
	clear(got)
	clear(journal.Repair(b[:ends[0]]))
	clear(append(journal.Repair(b[:ends[0]]), 1, 2, 3))
	if !bytes.Equal(b, kept) {
		t.Errorf("%v", b)
	}
}
