package codec_test

import (
	"bytes"
	"math"
	"slices"
	"testing"

	"seepage/api"
	"seepage/codec"
)

const (
	least = math.MinInt64
	most  = math.MaxInt64
)

// same reports whether two commands are the same; a nil list is the same as an empty one.
func same(a, b api.Cmd) bool {
	return a.Op == b.Op && a.U == b.U && a.V == b.V && a.W == b.W && a.T == b.T && slices.Equal(a.Draws, b.Draws) && slices.Equal(a.Bounds, b.Bounds)
}

// put expects the frame of a command, and reads it again.
func put(t *testing.T, c api.Cmd, want ...byte) {
	t.Helper()
	if e := codec.Check(c); e != api.OK {
		t.Errorf("Check(%v): error %d", c, e)
	}
	got, e := codec.Put(c)
	if !bytes.Equal(got, want) || e != api.OK {
		t.Errorf("Put(%v) = %v, error %d; expected %v", c, got, e, want)
	}
	for _, rest := range [][]byte{nil, {7}, {1, 5}, {255, 255}} {
		get(t, slices.Concat(want, rest), c, len(want))
	}
}

func get(t *testing.T, b []byte, want api.Cmd, n int) {
	t.Helper()
	if got, k, e := codec.Get(b); !same(got, want) || k != n || e != api.OK {
		t.Errorf("Get(%d bytes) = %v, %d, error %d; expected %v, %d", len(b), got, k, e, want, n)
	}
}

// refused expects that bytes are no frame.
func refused(t *testing.T, b ...byte) {
	t.Helper()
	if c, n, e := codec.Get(b); !same(c, api.Cmd{}) || n != 0 || e != api.ErrForm {
		t.Errorf("Get(%v) = %v, %d, error %d", b[:min(len(b), 30)], c, n, e)
	}
	if l, n, e := codec.GetAll(b); len(b) > 0 && (len(l) != 0 || n != 0 || e != api.ErrForm) {
		t.Errorf("GetAll(%v) = %v, %d, error %d", b[:min(len(b), 30)], l, n, e)
	}
}

// wrong expects that a command is not valid.
func wrong(t *testing.T, c api.Cmd, want api.Errno) {
	t.Helper()
	if e := codec.Check(c); e != want {
		t.Errorf("Check of Op %d: error %d, expected %d", c.Op, e, want)
	}
	if b, e := codec.Put(c); len(b) != 0 || e != want {
		t.Errorf("Put of Op %d: %d bytes, error %d, expected %d", c.Op, len(b), e, want)
	}
	if b, e := codec.PutAll([]api.Cmd{{Op: api.OpCount}, c, {}}); len(b) != 0 || e != want {
		t.Errorf("PutAll of Op %d: %d bytes, error %d, expected %d", c.Op, len(b), e, want)
	}
}

func unsigned(t *testing.T, x uint64, want ...byte) {
	t.Helper()
	for _, before := range [][]byte{nil, {1, 2, 3}} {
		if got := codec.PutUint(before, x); !bytes.Equal(got, slices.Concat(before, want)) {
			t.Errorf("PutUint(%v, %d) = %v, expected %v", before, x, got, want)
		}
	}
	for _, after := range [][]byte{nil, {0}, {128, 255}} {
		if got, n, e := codec.GetUint(slices.Concat(want, after)); got != x || n != len(want) || e != api.OK {
			t.Errorf("GetUint(%v) = %d, %d, error %d; expected %d", want, got, n, e, x)
		}
	}
}

func signed(t *testing.T, x int64, want ...byte) {
	t.Helper()
	for _, before := range [][]byte{nil, {1, 2, 3}} {
		if got := codec.PutInt(before, x); !bytes.Equal(got, slices.Concat(before, want)) {
			t.Errorf("PutInt(%v, %d) = %v, expected %v", before, x, got, want)
		}
	}
	for _, after := range [][]byte{nil, {0}, {128, 255}} {
		if got, n, e := codec.GetInt(slices.Concat(want, after)); got != x || n != len(want) || e != api.OK {
			t.Errorf("GetInt(%v) = %d, %d, error %d; expected %d", want, got, n, e, x)
		}
	}
}

// noNumber expects that bytes do not begin with a number.
func noNumber(t *testing.T, b ...byte) {
	t.Helper()
	if x, n, e := codec.GetUint(b); x != 0 || n != 0 || e != api.ErrForm {
		t.Errorf("GetUint(%v) = %d, %d, error %d", b, x, n, e)
	}
	if x, n, e := codec.GetInt(b); x != 0 || n != 0 || e != api.ErrForm {
		t.Errorf("GetInt(%v) = %d, %d, error %d", b, x, n, e)
	}
}

// P40.1 to P40.5: the chapter's examples.
func TestExamples(t *testing.T) {
	unsigned(t, 0, 0)
	unsigned(t, 127, 127)
	unsigned(t, 128, 128, 1)
	unsigned(t, 16384, 128, 128, 1)
	signed(t, -1, 1)
	signed(t, 1, 2)
	signed(t, 64, 128, 1)
	noNumber(t, 128, 0)
	noNumber(t)
	noNumber(t, 128)
	put(t, api.Cmd{Op: api.OpAdd, U: 1, V: 2, W: -5, T: 10}, 5, 1, 1, 2, 9, 20)
	get(t, []byte{5, 1, 1, 2, 9, 20, 7}, api.Cmd{Op: api.OpAdd, U: 1, V: 2, W: -5, T: 10}, 6)
	put(t, api.Cmd{Op: api.OpHisto, W: 3, Bounds: []int64{1, -1}}, 5, 12, 6, 2, 2, 1)
	wrong(t, api.Cmd{Op: api.OpTick, U: 1}, api.ErrArg)
	if l, n, e := codec.GetAll([]byte{1, 5, 1, 16}); len(l) != 1 || !same(l[0], api.Cmd{Op: api.OpCount}) || n != 2 || e != api.ErrForm {
		t.Errorf("GetAll = %v, %d, error %d", l, n, e)
	}
}

// P40.5: numbers at the ends of the range, and forms that are too long.
func TestNumbers(t *testing.T) {
	unsigned(t, 1, 1)
	unsigned(t, 129, 129, 1)
	unsigned(t, 16383, 255, 127)
	unsigned(t, 1<<62, 128, 128, 128, 128, 128, 128, 128, 128, 64)
	unsigned(t, 1<<63-1, 255, 255, 255, 255, 255, 255, 255, 255, 127)
	unsigned(t, 1<<63, 128, 128, 128, 128, 128, 128, 128, 128, 128, 1)
	unsigned(t, math.MaxUint64, 255, 255, 255, 255, 255, 255, 255, 255, 255, 1)
	signed(t, 0, 0)
	signed(t, -64, 127)
	signed(t, 63, 126)
	signed(t, -65, 129, 1)
	signed(t, most, 254, 255, 255, 255, 255, 255, 255, 255, 255, 1)
	signed(t, least, 255, 255, 255, 255, 255, 255, 255, 255, 255, 1)
	signed(t, least+1, 253, 255, 255, 255, 255, 255, 255, 255, 255, 1)
	noNumber(t, 255, 0)
	noNumber(t, 128, 128, 0)
	noNumber(t, 128, 128, 0, 1)
	noNumber(t, 255, 255, 255, 255, 255, 255, 255, 255, 255)
	noNumber(t, 255, 255, 255, 255, 255, 255, 255, 255, 255, 0)
	noNumber(t, 255, 255, 255, 255, 255, 255, 255, 255, 255, 2)
	noNumber(t, 255, 255, 255, 255, 255, 255, 255, 255, 255, 3)
	noNumber(t, 128, 128, 128, 128, 128, 128, 128, 128, 128, 129)
	noNumber(t, 255, 255, 255, 255, 255, 255, 255, 255, 255, 129, 0)
	noNumber(t, 255, 255, 255, 255, 255, 255, 255, 255, 255, 255, 1)
	noNumber(t, 128, 128, 128, 128, 128, 128, 128, 128, 128, 128, 1)
	noNumber(t, slices.Repeat([]byte{128}, 100)...)
}

// full is a command in which no field is zero.
func full() api.Cmd {
	return api.Cmd{U: 3, V: 300, W: -7, T: 70, Draws: []uint64{1, 200, 0}, Bounds: []int64{-1, 100}}
}

// fields are the frames of the commands of all kinds, with the fields of full; each
// letter is a field that the kind uses.
func fields() map[api.Op]string {
	return map[api.Op]string{
		api.OpAdd: "UVWT", api.OpTick: "T", api.OpConnected: "UV", api.OpSize: "U", api.OpCount: "", api.OpCluster: "UW", api.OpClusters: "W", api.OpMinimax: "UV",
		api.OpMerges: "", api.OpSweep: "", api.OpRandom: "D", api.OpHisto: "WB", api.OpBridges: "", api.OpCores: "", api.OpStats: "",
	}
}

// clearField clears a field of a command.
func clearField(c *api.Cmd, letter rune) {
	switch letter {
	case 'U':
		c.U = 0
	case 'V':
		c.V = 0
	case 'W':
		c.W = 0
	case 'T':
		c.T = 0
	case 'D':
		c.Draws = nil
	case 'B':
		c.Bounds = nil
	}
}

// P40.1 to P40.3: each kind, with the fields that it uses, and with one more.
func TestKinds(t *testing.T) {
	parts := map[rune][]byte{'U': {3}, 'V': {172, 2}, 'W': {13}, 'T': {140, 1}, 'D': {3, 1, 200, 1, 0}, 'B': {2, 1, 200, 1}}
	for op, used := range fields() {
		c := full()
		c.Op = op
		for _, letter := range "UVWTDB" {
			if !slices.Contains([]rune(used), letter) {
				clearField(&c, letter)
			}
		}
		payload := []byte{byte(op)}
		for _, letter := range used {
			payload = append(payload, parts[letter]...)
		}
		put(t, c, append([]byte{byte(len(payload))}, payload...)...)
		put(t, api.Cmd{Op: op, Draws: []uint64{}, Bounds: []int64{}}, append([]byte{byte(len(used) + 1), byte(op)}, make([]byte, len(used))...)...)
		for _, letter := range "UVWTDB" {
			if slices.Contains([]rune(used), letter) {
				continue
			}
			more := full()
			more.Op = op
			for _, other := range "UVWTDB" {
				if other != letter && !slices.Contains([]rune(used), other) {
					clearField(&more, other)
				}
			}
			wrong(t, more, api.ErrArg)
		}
		if !slices.Contains([]rune(used), 'D') {
			wrong(t, api.Cmd{Op: op, Draws: []uint64{0}}, api.ErrArg)
		}
		if !slices.Contains([]rune(used), 'B') {
			wrong(t, api.Cmd{Op: op, Bounds: []int64{0}}, api.ErrArg)
		}
		// With one byte more in the payload, or one less.
		refused(t, slices.Concat([]byte{byte(len(payload) + 1)}, payload, []byte{0, 0})...)
		refused(t, slices.Concat([]byte{byte(len(payload) - 1)}, payload)...)
		refused(t, slices.Concat([]byte{byte(len(payload) + 128), 0}, payload)...)
		for n := range payload {
			refused(t, slices.Concat([]byte{byte(len(payload))}, payload[:n])...)
			if n > 0 && len(used) > 0 {
				refused(t, slices.Concat([]byte{byte(n)}, payload[:n])...)
			}
		}
	}
}

// P40.1, P40.3: kinds that there are not.
func TestNoKinds(t *testing.T) {
	for _, op := range []api.Op{0, -1, 16, 99, 256, 257, 261, math.MinInt, math.MaxInt} {
		wrong(t, api.Cmd{Op: op}, api.ErrArg)
		c := full()
		c.Op = op
		wrong(t, c, api.ErrArg)
	}
	for _, op := range []byte{0, 16, 17, 127, 128, 133, 255} {
		refused(t, 1, op)
		refused(t, 2, op, 0)
		refused(t, 2, op, 1)
	}
	refused(t)
	refused(t, 0)
	refused(t, 0, 5)
	refused(t, 1)
	refused(t, 128)
	refused(t, 128, 1)
	refused(t, 129, 0, 5)
	refused(t, 255, 255, 255, 255, 255, 255, 255, 255, 255, 1, 5)
	refused(t, 255, 255, 255, 255, 255, 255, 255, 255, 127, 5)
	// Numbers in the fields that are not in the shortest form.
	refused(t, 3, 4, 128, 0)
	refused(t, 3, 2, 129, 0)
	refused(t, 4, 11, 129, 0, 5)
	refused(t, 4, 11, 1, 128, 0)
	refused(t, 11, 4, 255, 255, 255, 255, 255, 255, 255, 255, 255, 2)
}

// P40.1 to P40.3: lists that are as long as they can be, and longer.
func TestLong(t *testing.T) {
	draws, bounds := make([]uint64, api.MaxDraws+1), make([]int64, 1025)
	for i := range draws {
		draws[i] = math.MaxUint64 - uint64(i)
	}
	for i := range bounds {
		bounds[i] = int64(i % 7)
	}
	random := api.Cmd{Op: api.OpRandom, Draws: draws[:api.MaxDraws]}
	histo := api.Cmd{Op: api.OpHisto, W: least, Bounds: bounds[:1024]}
	for _, c := range []api.Cmd{random, histo} {
		b, e := codec.Put(c)
		if e != api.OK {
			t.Fatalf("Put: error %d", e)
		}
		get(t, b, c, len(b))
	}
	wrong(t, api.Cmd{Op: api.OpRandom, Draws: draws}, api.ErrLong)
	wrong(t, api.Cmd{Op: api.OpHisto, Bounds: bounds}, api.ErrLong)
	wrong(t, api.Cmd{Op: api.OpRandom, U: 1, Draws: draws}, api.ErrArg)
	wrong(t, api.Cmd{Op: api.OpHisto, T: 1, Bounds: bounds}, api.ErrArg)
	wrong(t, api.Cmd{Op: api.OpHisto, Draws: draws}, api.ErrArg)
	wrong(t, api.Cmd{Op: api.OpRandom, Bounds: bounds}, api.ErrArg)
	wrong(t, api.Cmd{Op: api.OpRandom, Draws: draws, Bounds: bounds}, api.ErrArg)
	wrong(t, api.Cmd{Op: api.OpTick, Draws: draws}, api.ErrArg)
	wrong(t, api.Cmd{Op: 16, Draws: draws}, api.ErrArg)
	// 16385 elements, each of one byte; and 1025.
	refused(t, slices.Concat([]byte{133, 128, 1, 11, 129, 128, 1}, make([]byte, 16385))...)
	refused(t, slices.Concat([]byte{133, 8, 12, 0, 129, 8}, make([]byte, 1025))...)
	get(t, slices.Concat([]byte{132, 128, 1, 11, 128, 128, 1}, make([]byte, 16384)), api.Cmd{Op: api.OpRandom, Draws: make([]uint64, 16384)}, 7+16384)
	get(t, slices.Concat([]byte{132, 8, 12, 0, 128, 8}, make([]byte, 1024)), api.Cmd{Op: api.OpHisto, Bounds: make([]int64, 1024)}, 6+1024)
	// Many more than there are bytes.
	refused(t, 11, 11, 255, 255, 255, 255, 255, 255, 255, 255, 255, 1)
	refused(t, 12, 12, 0, 255, 255, 255, 255, 255, 255, 255, 255, 255, 1)
}

// P40.2, P40.4
func TestSequences(t *testing.T) {
	l := []api.Cmd{{Op: api.OpTick, T: -70}, {Op: api.OpCount}, {Op: api.OpRandom, Draws: []uint64{5, 500}}, {Op: api.OpCount}}
	frames := []byte{3, 2, 139, 1, 1, 5, 5, 11, 2, 5, 244, 3, 1, 5}
	if b, e := codec.PutAll(l); !bytes.Equal(b, frames) || e != api.OK {
		t.Errorf("PutAll = %v, error %d", b, e)
	}
	ends := []int{0, 4, 6, 12, 14}
	for n := range len(frames) + 1 {
		whole := 0
		for ends[whole] < n && whole+1 < len(ends) && ends[whole+1] <= n {
			whole++
		}
		want := api.OK
		if ends[whole] != n {
			want = api.ErrForm
		}
		got, read, e := codec.GetAll(frames[:n])
		if !slices.EqualFunc(got, l[:whole], same) || read != ends[whole] || e != want {
			t.Errorf("GetAll(%d bytes) = %v, %d, error %d", n, got, read, e)
		}
	}
	if b, e := codec.PutAll(nil); len(b) != 0 || e != api.OK {
		t.Errorf("PutAll(nil) = %v, error %d", b, e)
	}
	long := api.Cmd{Op: api.OpRandom, Draws: make([]uint64, api.MaxDraws+1)}
	if b, e := codec.PutAll([]api.Cmd{{Op: api.OpCount}, long, {Op: 99}}); len(b) != 0 || e != api.ErrLong {
		t.Errorf("PutAll = %v, error %d", b, e)
	}
	if b, e := codec.PutAll([]api.Cmd{{Op: 99}, long}); len(b) != 0 || e != api.ErrArg {
		t.Errorf("PutAll = %v, error %d", b, e)
	}
}

// R4
func TestMemory(t *testing.T) {
	b := []byte{1, 2, 3, 4}
	got := codec.PutUint(b[:2], 9)
	got[0] = 7
	codec.PutInt(b[:2], 9)
	if !bytes.Equal(b, []byte{1, 2, 3, 4}) {
		t.Errorf("%v", b)
	}
	c := api.Cmd{Op: api.OpHisto, Bounds: []int64{4, 5, 6}[:2]}
	d := api.Cmd{Op: api.OpRandom, Draws: []uint64{4, 5, 6}[:2]}
	put(t, c, 5, 12, 0, 2, 8, 10)
	put(t, d, 4, 11, 2, 4, 5)
	wrong(t, api.Cmd{Op: api.OpTick, Bounds: c.Bounds, Draws: d.Draws}, api.ErrArg)
	if !slices.Equal(c.Bounds[:3], []int64{4, 5, 6}) || !slices.Equal(d.Draws[:3], []uint64{4, 5, 6}) {
		t.Errorf("%v, %v", c.Bounds[:3], d.Draws[:3])
	}
}
