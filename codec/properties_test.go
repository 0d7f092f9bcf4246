package codec_test

import (
	"bytes"
	"math/rand/v2"
	"slices"
	"testing"

	"seepage/api"
	"seepage/codec"
)

// number returns a number of any length.
func number(r *rand.Rand) uint64 {
	return r.Uint64() >> r.IntN(64)
}

// command returns a valid command of any kind.
func command(r *rand.Rand) api.Cmd {
	c := api.Cmd{Op: api.Op(1 + r.IntN(15))}
	for _, letter := range fields()[c.Op] {
		switch letter {
		case 'U':
			c.U = number(r)
		case 'V':
			c.V = number(r)
		case 'W':
			c.W = int64(number(r)) - int64(number(r))
		case 'T':
			c.T = int64(number(r)) - int64(number(r))
		case 'D':
			for range r.IntN(200) {
				c.Draws = append(c.Draws, number(r))
			}
		case 'B':
			for range r.IntN(200) {
				c.Bounds = append(c.Bounds, int64(number(r))-int64(number(r)))
			}
		}
	}
	return c
}

// P40.6: there and back, and no frame is the beginning of another one.
func TestThereAndBack(t *testing.T) {
	for seed := range uint64(200) {
		r := rand.New(rand.NewPCG(seed, 40))
		var l []api.Cmd
		var frames []byte
		for range r.IntN(8) {
			c := command(r)
			b, e := codec.Put(c)
			if e != api.OK {
				t.Fatalf("Put(%v): error %d", c, e)
			}
			get(t, b, c, len(b))
			get(t, slices.Concat(b, []byte{byte(r.IntN(256)), 3}), c, len(b))
			for n := range len(b) {
				refused(t, b[:n]...)
			}
			l, frames = append(l, c), append(frames, b...)
		}
		if b, e := codec.PutAll(l); !bytes.Equal(b, frames) || e != api.OK {
			t.Fatalf("PutAll: error %d", e)
		}
		if got, n, e := codec.GetAll(frames); !slices.EqualFunc(got, l, same) || n != len(frames) || e != api.OK {
			t.Fatalf("GetAll = %v, %d, error %d; expected %v", got, n, e, l)
		}
	}
}

// P40.6: what is read of any bytes is written as these bytes.
func TestAnyBytes(t *testing.T) {
	read := 0
	for seed := range uint64(20000) {
		r := rand.New(rand.NewPCG(seed, 406))
		b := make([]byte, 1+r.IntN(9))
		for i := range b {
			b[i] = byte(r.IntN(14))
			if r.IntN(4) == 0 {
				b[i] = byte(r.IntN(256))
			}
		}
		c, n, e := codec.Get(b)
		if e != api.OK {
			refused(t, b...)
			continue
		}
		read++
		if again, e := codec.Put(c); !bytes.Equal(again, b[:n]) || e != api.OK {
			t.Fatalf("Get(%v) = %v, %d; Put = %v, error %d", b, c, n, again, e)
		}
	}
	if read < 200 {
		t.Errorf("only %d frames", read)
	}
}

// P40.5: numbers by their definition, and any bytes as numbers.
func TestNumbersByDefinition(t *testing.T) {
	for seed := range uint64(3000) {
		r := rand.New(rand.NewPCG(seed, 405))
		x := number(r)
		var want []byte
		for rest := x; ; rest /= 128 {
			if rest < 128 {
				want = append(want, byte(rest))
				break
			}
			want = append(want, byte(rest%128+128))
		}
		unsigned(t, x, want...)
		if x%2 == 0 {
			signed(t, int64(x/2), want...)
		} else {
			signed(t, -int64(x/2)-1, want...)
		}
		b := make([]byte, 1+r.IntN(12))
		for i := range b {
			b[i] = byte(r.Uint32() | uint32(r.IntN(5)+3)/4*128)
			if r.IntN(4) == 0 {
				b[i] &= 129
			}
		}
		if y, n, e := codec.GetUint(b); e == api.OK && !bytes.Equal(codec.PutUint(nil, y), b[:n]) {
			t.Fatalf("GetUint(%v) = %d, %d", b, y, n)
		}
	}
}
