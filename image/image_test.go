package image_test

import (
	"bytes"
	"encoding/binary"
	"hash/crc32"
	"math"
	"slices"
	"testing"

	"seepage/api"
	"seepage/image"
	"seepage/window"
)

const most = math.MaxInt64

func config(length int64, edges, verts, draws int) api.Config {
	return api.Config{Window: length, Edges: edges, Verts: verts, Draws: draws}
}

func rec(u, v uint64, w, at int64) api.Rec {
	return api.Rec{U: u, V: v, W: w, T: at}
}

// parts are the parts of an image, which need not be valid.
type parts struct {
	c              api.Config
	now            int64
	added, expired uint64
	l              []api.Rec
}

// body returns the bytes of an image without the checksum.
func (p parts) body() []byte {
	b := []byte{83, 69, 69, 80, 1}
	for _, x := range []uint64{uint64(p.c.Window), uint64(p.c.Edges), uint64(p.c.Verts), uint64(p.c.Draws), uint64(p.now), p.added, p.expired} {
		b = binary.BigEndian.AppendUint64(b, x)
	}
	for _, r := range p.l {
		for _, x := range []uint64{r.U, r.V, uint64(r.W), uint64(r.T)} {
			b = binary.BigEndian.AppendUint64(b, x)
		}
	}
	return b
}

// summed returns bytes with their checksum.
func summed(b []byte) []byte {
	return binary.BigEndian.AppendUint32(slices.Clone(b), crc32.ChecksumIEEE(b))
}

func save(t *testing.T, w *window.Window, want []byte) {
	t.Helper()
	if got, e := image.Save(w); !bytes.Equal(got, want) || e != api.OK {
		t.Errorf("Save = %v, error %d; expected %v", got, e, want)
	}
}

// load expects that bytes are an image, and that the window of it has this image.
func load(t *testing.T, b []byte) *window.Window {
	t.Helper()
	w, e := image.Load(b)
	if w == nil || e != api.OK {
		t.Fatalf("Load(%d bytes) = %v, error %d", len(b), w, e)
	}
	if e := image.Check(b); e != api.OK {
		t.Errorf("Check(%d bytes): error %d", len(b), e)
	}
	save(t, w, b)
	return w
}

func refused(t *testing.T, b []byte, want api.Errno) {
	t.Helper()
	if w, e := image.Load(b); w != nil || e != want {
		t.Errorf("Load(%v) = %v, error %d, expected %d", b[:min(len(b), 80)], w, e, want)
	}
	if e := image.Check(b); e != want {
		t.Errorf("Check(%v): error %d, expected %d", b[:min(len(b), 80)], e, want)
	}
}

func equal(t *testing.T, a, b *window.Window, want bool) {
	t.Helper()
	if got := image.Equal(a, b); got != want {
		t.Errorf("Equal = %t", got)
	}
	if got := image.Equal(b, a); got != want {
		t.Errorf("Equal = %t the other way round", got)
	}
}

// made returns a window with these edges.
func made(t *testing.T, c api.Config, l ...api.Rec) *window.Window {
	t.Helper()
	w, e := window.New(c)
	if e != api.OK {
		t.Fatalf("window.New: error %d", e)
	}
	for _, r := range l {
		if e := w.Add(r); e != api.OK {
			t.Fatalf("Add(%v): error %d", r, e)
		}
	}
	return w
}

// example returns the parts of an image with two live edges and one that is expired.
func example() parts {
	return parts{c: config(10, 3, 4, 5), now: 12, added: 3, expired: 1, l: []api.Rec{rec(2, math.MaxUint64, -7, 4), rec(3, 2, math.MinInt64, 12)}}
}

// P43.1 to P43.3: the chapter's examples.
func TestExamples(t *testing.T) {
	if got := image.Sum([]byte("123456789")); got != 0xcbf43926 {
		t.Errorf("Sum = %x", got)
	}
	if got := image.Sum(nil); got != 0 {
		t.Errorf("Sum of nothing = %x", got)
	}
	b := summed(parts{c: config(10, 2, 2, 0)}.body())
	if len(b) != 65 {
		t.Errorf("%d bytes", len(b))
	}
	save(t, made(t, config(10, 2, 2, 0)), b)
	load(t, b)
	refused(t, nil, api.ErrForm)
	other := slices.Clone(b)
	other[4] = 2
	refused(t, other, api.ErrForm)
	other = slices.Clone(b)
	other[64]++
	refused(t, other, api.ErrSum)
}

// P43.1
func TestSum(t *testing.T) {
	b := []byte{}
	for i := range 600 {
		b = append(b, byte(i*i+i/7))
		if got := image.Sum(b[i/2:]); got != crc32.ChecksumIEEE(b[i/2:]) {
			t.Fatalf("Sum(%v) = %x", b[i/2:], got)
		}
	}
	for x := range 256 {
		if got := image.Sum([]byte{byte(x)}); got != crc32.ChecksumIEEE([]byte{byte(x)}) {
			t.Errorf("Sum(%d) = %x", x, got)
		}
	}
}

// P43.2, P43.3: an image with edges.
func TestSaveAndLoad(t *testing.T) {
	p := example()
	w := made(t, p.c, rec(1, 2, 9, 2), p.l[0], p.l[1])
	b := summed(p.body())
	save(t, w, b)
	again := load(t, b)
	if again.Now() != 12 || again.Config() != p.c || again.Version() != 4 {
		t.Errorf("Now %d, Config %v, Version %d", again.Now(), again.Config(), again.Version())
	}
	for i, live := range again.Live() {
		if live.Rec != p.l[i] || live.Seq != uint64(i)+2 || live.Exp != p.l[i].T+10 {
			t.Errorf("%v at %d", live, i)
		}
	}
	equal(t, w, again, true)
	load(t, summed(parts{c: config(most, api.MaxEdges, api.MaxVerts, api.MaxDraws)}.body()))
	load(t, summed(parts{c: config(1, 1, 2, 0), now: most - 1, added: most, expired: most - 1, l: []api.Rec{rec(0, 1, 0, most-1)}}.body()))
}

// P43.3: what has not the form of an image, before and after the checksum is looked at.
func TestForm(t *testing.T) {
	b := summed(example().body())
	for n := range b {
		want := api.ErrSum
		if n < 65 {
			want = api.ErrForm
		}
		refused(t, b[:n], want)
		if n >= 5 && n < 61 {
			refused(t, summed(b[:n]), api.ErrForm)
		}
	}
	refused(t, append(slices.Clone(b), 0), api.ErrSum)
	for i := range 5 {
		other := slices.Clone(b)
		other[i] ^= 32
		refused(t, other, api.ErrForm)
		refused(t, summed(other[:len(other)-4]), api.ErrForm)
	}
	for i := 5; i < len(b); i++ {
		other := slices.Clone(b)
		other[i] ^= 1 << (i % 8)
		refused(t, other, api.ErrSum)
	}
	// Numbers of edges that do not agree with the bytes.
	for _, n := range []int{1, 4, 31, 33, 64} {
		refused(t, summed(append(example().body(), make([]byte, n)...)), api.ErrForm)
	}
	for _, n := range []int{1, 31, 32, 33, 63, 64} {
		body := example().body()
		refused(t, summed(body[:len(body)-n]), api.ErrForm)
	}
	for _, c := range [][2]uint64{{2, 1}, {4, 1}, {3, 0}, {3, 2}, {1, 3}, {0, 1}, {2, 3}, {1 << 63, 1}, {math.MaxUint64, 1}, {1, math.MaxUint64}, {3, 1 << 63}, {3 + 1<<59, 1}, {3 + 1<<32, 1}} {
		p := example()
		p.added, p.expired = c[0], c[1]
		refused(t, summed(p.body()), api.ErrForm)
	}
	p := parts{c: config(10, 3, 4, 5), added: 1, expired: 2}
	refused(t, summed(p.body()), api.ErrForm)
	// A sum that is right for fewer bytes, and a configuration that is not valid: the
	// form comes first.
	p.c.Edges = 0
	refused(t, summed(p.body()), api.ErrForm)
}

// P43.3: what Restore refuses.
func TestArguments(t *testing.T) {
	for i, change := range []func(p *parts){
		func(p *parts) { p.c.Window = 0 },
		func(p *parts) { p.c.Window = -1 },
		func(p *parts) { p.c.Edges = 0 },
		func(p *parts) { p.c.Edges = api.MaxEdges + 1 },
		func(p *parts) { p.c.Verts = 1 },
		func(p *parts) { p.c.Draws = -1 },
		func(p *parts) { p.c.Edges = 1 },
		func(p *parts) { p.c.Verts = 2 },
		func(p *parts) { p.now = -1 },
		func(p *parts) { p.now = most },
		func(p *parts) { p.now = 11 },
		func(p *parts) { p.now = 14 },
		func(p *parts) { p.l[0].V = 2 },
		func(p *parts) { p.l[0].T = 13 },
		func(p *parts) { p.l[0].T = -1 },
		func(p *parts) { p.l[1].T = 3 },
		func(p *parts) { p.added, p.expired = most+1, most-1 },
		func(p *parts) { p.added, p.expired = 1<<63+2, 1<<63 },
		func(p *parts) { p.added, p.expired = 1, math.MaxUint64 },
		func(p *parts) { p.added, p.expired = math.MaxUint64, math.MaxUint64-2 },
	} {
		p := example()
		change(&p)
		want := api.ErrArg
		if p.added < p.expired {
			want = api.ErrForm
		}
		if _, e := image.Load(summed(p.body())); e != want {
			t.Errorf("change %d: error %d", i, e)
		}
		refused(t, summed(p.body()), want)
	}
	load(t, summed(example().body()))
}

// P43.4, P43.7
func TestEqual(t *testing.T) {
	c := config(10, 3, 4, 5)
	w := made(t, c, rec(1, 2, 5, 0), rec(2, 3, 5, 4))
	equal(t, w, w, true)
	equal(t, w, w.Copy(), true)
	equal(t, w, made(t, c, rec(1, 2, 5, 0), rec(2, 3, 5, 4)), true)
	for _, other := range []*window.Window{
		made(t, c, rec(1, 2, 5, 0)), made(t, c, rec(1, 2, 5, 0), rec(3, 2, 5, 4)), made(t, c, rec(1, 2, 6, 0), rec(2, 3, 5, 4)), made(t, c, rec(1, 2, 5, 1), rec(2, 3, 5, 4)),
		made(t, c, rec(2, 1, 5, 0), rec(2, 3, 5, 4)), made(t, config(11, 3, 4, 5), rec(1, 2, 5, 0), rec(2, 3, 5, 4)), made(t, config(10, 3, 4, 6), rec(1, 2, 5, 0), rec(2, 3, 5, 4)),
		made(t, config(10, 2, 4, 5), rec(1, 2, 5, 0), rec(2, 3, 5, 4)), made(t, config(10, 3, 3, 5), rec(1, 2, 5, 0), rec(2, 3, 5, 4)), made(t, c), nil, {},
	} {
		equal(t, w, other, false)
	}
	later := w.Copy()
	later.Tick(5)
	equal(t, w, later, false)
	w.Tick(5)
	equal(t, w, later, true)
	// The same edges, but another number of edges that are expired.
	restored, _ := window.Restore(c, 5, 1, []api.Rec{rec(1, 2, 5, 0), rec(2, 3, 5, 4)})
	equal(t, w, restored, false)
	equal(t, nil, nil, false)
	equal(t, nil, &window.Window{}, false)
}

// P43.2, P43.3: the greatest image.
func TestFull(t *testing.T) {
	w := made(t, config(1<<20, api.MaxEdges, api.MaxVerts, 0))
	for i := range api.MaxEdges {
		if e := w.Add(rec(uint64(i%api.MaxVerts), uint64((i+1)%api.MaxVerts), 0, int64(i))); e != api.OK {
			t.Fatalf("Add: error %d", e)
		}
	}
	b, e := image.Save(w)
	if len(b) != 65+32*api.MaxEdges || e != api.OK {
		t.Fatalf("%d bytes, error %d", len(b), e)
	}
	equal(t, w, load(t, b), true)
}

// R2, R4
func TestNotValid(t *testing.T) {
	for _, w := range []*window.Window{nil, {}} {
		if b, e := image.Save(w); len(b) != 0 || e != api.ErrNil {
			t.Errorf("Save = %v, error %d", b, e)
		}
	}
	b := summed(example().body())
	kept := slices.Clone(b)
	w := load(t, b)
	clear(b)
	save(t, w, kept)
}
