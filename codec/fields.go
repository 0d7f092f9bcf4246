package codec

import "seepage/api"

// visitor is told the fields of a command.
type visitor interface {
	unsigned(x *uint64)
	signed(x *int64)
	draws(l *[]uint64)
	bounds(l *[]int64)
}

// tell tells a visitor the fields that a command of its kind uses, in their order.
// It reports whether there is such a kind.
func tell(c *api.Cmd, v visitor) bool {
	switch c.Op {
	case api.OpAdd:
		v.unsigned(&c.U)
		v.unsigned(&c.V)
		v.signed(&c.W)
		v.signed(&c.T)
	case api.OpTick:
		v.signed(&c.T)
	case api.OpConnected, api.OpMinimax:
		v.unsigned(&c.U)
		v.unsigned(&c.V)
	case api.OpSize:
		v.unsigned(&c.U)
	case api.OpCount, api.OpMerges, api.OpSweep, api.OpBridges, api.OpCores, api.OpStats:
	case api.OpCluster:
		v.unsigned(&c.U)
		v.signed(&c.W)
	case api.OpClusters:
		v.signed(&c.W)
	case api.OpRandom:
		v.draws(&c.Draws)
	case api.OpHisto:
		v.signed(&c.W)
		v.bounds(&c.Bounds)
	default:
		return false
	}
	return true
}

// pass passes the elements of a list to a function.
func pass[N any](l []N, to func(x *N)) {
	for i := range l {
		to(&l[i])
	}
}

// eraser clears fields.
type eraser struct{}

func (eraser) unsigned(x *uint64) { *x = 0 }

func (eraser) signed(x *int64) { *x = 0 }

func (eraser) draws(l *[]uint64) { *l = nil }

func (eraser) bounds(l *[]int64) { *l = nil }

// writer appends fields to bytes.
type writer struct{ b []byte }

func (w *writer) unsigned(x *uint64) { w.b = appendUint(w.b, *x) }

func (w *writer) signed(x *int64) { w.b = appendUint(w.b, folded(*x)) }

func (w *writer) draws(l *[]uint64) {
	w.b = appendUint(w.b, uint64(len(*l)))
	pass(*l, w.unsigned)
}

func (w *writer) bounds(l *[]int64) {
	w.b = appendUint(w.b, uint64(len(*l)))
	pass(*l, w.signed)
}

// reader takes fields from the beginning of bytes. It panics if they are not valid.
type reader struct{ rest []byte }

func (r *reader) unsigned(x *uint64) {
	var n int
	var e api.Errno
	*x, n, e = GetUint(r.rest)
	if e != api.OK {
		panic(e)
	}
	r.rest = r.rest[n:]
}

func (r *reader) signed(x *int64) {
	var folded uint64
	r.unsigned(&folded)
	*x = unfolded(folded)
}

func (r *reader) draws(l *[]uint64) {
	if n := r.count(api.MaxDraws); n > 0 {
		*l = make([]uint64, n)
	}
	pass(*l, r.unsigned)
}

func (r *reader) bounds(l *[]int64) {
	if n := r.count(mostBounds); n > 0 {
		*l = make([]int64, n)
	}
	pass(*l, r.signed)
}

// count takes the number of elements of a list, which has at most so many.
func (r *reader) count(most uint64) uint64 {
	var n uint64
	r.unsigned(&n)
	if n > most {
		panic(api.ErrForm)
	}
	return n
}

// frame takes a frame.
func (r *reader) frame() api.Cmd {
	var n uint64
	r.unsigned(&n)
	if n == 0 || n > uint64(len(r.rest)) {
		panic(api.ErrForm)
	}
	c := api.Cmd{Op: api.Op(r.rest[0])}
	payload := &reader{rest: r.rest[1:n]}
	if !tell(&c, payload) || len(payload.rest) > 0 {
		panic(api.ErrForm)
	}
	r.rest = r.rest[n:]
	return c
}
