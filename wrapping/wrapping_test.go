package wrapping_test

import (
	"math"
	"testing"

	"seepage/api"
	"seepage/wrapping"
)

func made(t *testing.T, w, h int) *wrapping.Torus {
	t.Helper()
	y, e := wrapping.New(w, h)
	if y == nil || e != api.OK {
		t.Fatalf("New(%d, %d) = %v, error %d", w, h, y, e)
	}
	return y
}

func add(t *testing.T, y *wrapping.Torus, column, row, dir int, want bool, we api.Errno) {
	t.Helper()
	if got, e := y.Add(column, row, dir); got != want || e != we {
		t.Fatalf("Add(%d, %d, %d) = %t, error %d; expected %t, error %d", column, row, dir, got, e, want, we)
	}
}

func wraps(t *testing.T, y *wrapping.Torus, wantAcross, wantDown bool) {
	t.Helper()
	if across, down := y.Wraps(); across != wantAcross || down != wantDown {
		t.Fatalf("Wraps: %t, %t; expected %t, %t", across, down, wantAcross, wantDown)
	}
}

func offset(t *testing.T, y *wrapping.Torus, a, b, wantX, wantY int, wok bool) {
	t.Helper()
	if x, z, ok := y.Offset(a, b); x != wantX || z != wantY || ok != wok {
		t.Fatalf("Offset(%d, %d) = %d, %d, %t; expected %d, %d, %t", a, b, x, z, ok, wantX, wantY, wok)
	}
}

func same(t *testing.T, y *wrapping.Torus, a, b int, want bool) {
	t.Helper()
	if got := y.Same(a, b); got != want {
		t.Fatalf("Same(%d, %d) = %t", a, b, got)
	}
}

func count(t *testing.T, y *wrapping.Torus, want int) {
	t.Helper()
	if got := y.Count(); got != want {
		t.Fatalf("Count: %d, expected %d", got, want)
	}
}

func first(t *testing.T, w, h int, order []int, want int, wok bool, we api.Errno) {
	t.Helper()
	if got, ok, e := wrapping.First(w, h, order); got != want || ok != wok || e != we {
		t.Fatalf("First(%d, %d, %v) = %d, %t, error %d; expected %d, %t, error %d", w, h, order, got, ok, e, want, wok, we)
	}
}

func spans(t *testing.T, w, h int, l []api.Edge, want bool, we api.Errno) {
	t.Helper()
	if got, e := wrapping.Spans(w, h, l); got != want || e != we {
		t.Fatalf("Spans(%d, %d, %d edges) = %t, error %d; expected %t, error %d", w, h, len(l), got, e, want, we)
	}
}

// pairs returns edges that are given by their ends.
func pairs(ends ...int) []api.Edge {
	var l []api.Edge
	for i := 0; i < len(ends); i += 2 {
		l = append(l, api.Edge{U: ends[i], V: ends[i+1], W: int64(i)})
	}
	return l
}

// P30.2 to P30.6: the chapter's examples.
func TestExamples(t *testing.T) {
	y := made(t, 3, 2)
	count(t, y, 6)
	add(t, y, 0, 0, 0, true, api.OK)
	add(t, y, 1, 0, 0, true, api.OK)
	offset(t, y, 0, 2, 2, 0, true)
	offset(t, y, 2, 0, -2, 0, true)
	wraps(t, y, false, false)
	add(t, y, 2, 0, 0, false, api.OK)
	wraps(t, y, true, false)
	offset(t, y, 0, 2, 0, 0, false)
	offset(t, y, 0, 0, 0, 0, false)
	add(t, y, 0, 0, 1, true, api.OK)
	same(t, y, 0, 3, true)
	wraps(t, y, true, false)
	add(t, y, 0, 1, 1, false, api.OK)
	wraps(t, y, true, true)
	count(t, y, 3)
	first(t, 3, 2, []int{0, 2, 1, 4}, 4, true, api.OK)
	first(t, 3, 2, []int{0, 0}, 0, false, api.ErrArg)
	first(t, 1, 1, []int{0}, 1, true, api.OK)
	spans(t, 3, 2, pairs(0, 1, 4, 5), false, api.OK)
	spans(t, 3, 2, pairs(0, 1, 4, 5, 1, 4), true, api.OK)
}

// P30.1, P30.5, P30.6: numbers of columns and rows that are not possible.
func TestSizes(t *testing.T) {
	for _, c := range [][2]int{
		{0, 1}, {1, 0}, {0, 0}, {-1, 1}, {1, -1}, {-1, -1}, {-64, -64}, {4097, 1}, {1, 4097}, {64, 65}, {65, 64}, {1 << 32, 1 << 32}, {1 << 62, 4}, {3, 1 << 62},
		{math.MaxInt, math.MaxInt}, {math.MinInt, math.MinInt}, {math.MaxInt, 1}, {1, math.MaxInt}, {math.MinInt, 1}, {-1, math.MinInt},
	} {
		if y, e := wrapping.New(c[0], c[1]); y != nil || e != api.ErrArg {
			t.Errorf("New(%d, %d) = %v, error %d", c[0], c[1], y, e)
		}
		first(t, c[0], c[1], nil, 0, false, api.ErrArg)
		first(t, c[0], c[1], []int{0}, 0, false, api.ErrArg)
		spans(t, c[0], c[1], nil, false, api.ErrArg)
		spans(t, c[0], c[1], pairs(0, 0), false, api.ErrArg)
		spans(t, c[0], c[1], pairs(0, -1), false, api.ErrArg)
	}
	for _, c := range [][2]int{{1, 1}, {4096, 1}, {1, 4096}, {64, 64}, {3, 1365}} {
		y := made(t, c[0], c[1])
		count(t, y, c[0]*c[1])
		wraps(t, y, false, false)
		offset(t, y, c[0]*c[1]-1, c[0]*c[1]-1, 0, 0, true)
	}
}

// P30.2: places and directions that there are not.
func TestBadEdges(t *testing.T) {
	y := made(t, 3, 2)
	for _, i := range []int{-1, 3, math.MinInt, math.MaxInt} {
		for _, dir := range []int{0, 1, 2, -1} {
			add(t, y, i, 0, dir, false, api.ErrRange)
			add(t, y, 0, i, dir, false, api.ErrRange)
			add(t, y, i, i, dir, false, api.ErrRange)
		}
	}
	add(t, y, 2, 2, 0, false, api.ErrRange)
	for _, dir := range []int{-1, 2, math.MinInt, math.MaxInt} {
		add(t, y, 2, 1, dir, false, api.ErrArg)
	}
	count(t, y, 6)
	wraps(t, y, false, false)
	for v := range 6 {
		same(t, y, v, (v+1)%6, false)
	}
}

// P30.2 to P30.4: edges of each direction, that lead over the border.
func TestAdd(t *testing.T) {
	y := made(t, 4, 3)
	add(t, y, 3, 1, 0, true, api.OK)
	same(t, y, 7, 4, true)
	offset(t, y, 7, 4, 1, 0, true)
	add(t, y, 3, 2, 1, true, api.OK)
	same(t, y, 11, 3, true)
	offset(t, y, 11, 3, 0, 1, true)
	add(t, y, 3, 1, 1, true, api.OK)
	offset(t, y, 3, 4, 1, -2, true)
	offset(t, y, 4, 3, -1, 2, true)
	offset(t, y, 4, 4, 0, 0, true)
	count(t, y, 9)
	// Once more.
	add(t, y, 3, 1, 0, false, api.OK)
	add(t, y, 3, 1, 1, false, api.OK)
	count(t, y, 9)
	offset(t, y, 3, 4, 1, -2, true)
	wraps(t, y, false, false)
	offset(t, y, 3, 0, 0, 0, false)
	add(t, y, 3, 0, 1, false, api.OK)
	wraps(t, y, false, true)
	offset(t, y, 3, 4, 0, 0, false)
	// Another component is not affected, until it is joined.
	add(t, y, 0, 0, 0, true, api.OK)
	offset(t, y, 0, 1, 1, 0, true)
	add(t, y, 0, 0, 1, true, api.OK)
	offset(t, y, 0, 1, 0, 0, false)
	wraps(t, y, false, true)
}

// P30.2: a closed walk around a square does not wrap.
func TestSquare(t *testing.T) {
	y := made(t, 3, 3)
	add(t, y, 0, 0, 0, true, api.OK)
	add(t, y, 0, 0, 1, true, api.OK)
	add(t, y, 0, 1, 0, true, api.OK)
	add(t, y, 1, 0, 1, false, api.OK)
	wraps(t, y, false, false)
	offset(t, y, 0, 4, 1, 1, true)
	offset(t, y, 4, 1, 0, -1, true)
}

// P30.2 to P30.5: with one column or row an edge joins a vertex with itself, with
// two there are two edges between the same vertices.
func TestNarrow(t *testing.T) {
	y := made(t, 1, 3)
	add(t, y, 0, 1, 0, false, api.OK)
	wraps(t, y, true, false)
	offset(t, y, 1, 1, 0, 0, false)
	offset(t, y, 0, 0, 0, 0, true)
	count(t, y, 3)
	y = made(t, 3, 1)
	add(t, y, 1, 0, 1, false, api.OK)
	wraps(t, y, false, true)
	y = made(t, 2, 2)
	add(t, y, 0, 0, 0, true, api.OK)
	offset(t, y, 0, 1, 1, 0, true)
	add(t, y, 1, 0, 0, false, api.OK)
	wraps(t, y, true, false)
	y = made(t, 2, 2)
	add(t, y, 1, 1, 1, true, api.OK)
	offset(t, y, 3, 1, 0, 1, true)
	add(t, y, 1, 0, 1, false, api.OK)
	wraps(t, y, false, true)
	// A diagonal walk wraps in both directions at once.
	y = made(t, 2, 2)
	add(t, y, 0, 0, 0, true, api.OK)
	add(t, y, 1, 0, 1, true, api.OK)
	add(t, y, 1, 1, 0, true, api.OK)
	wraps(t, y, false, false)
	add(t, y, 0, 1, 1, false, api.OK)
	wraps(t, y, true, true)
}

// P30.3, P30.4: numbers that are no vertices.
func TestNoVertices(t *testing.T) {
	y := made(t, 3, 2)
	for _, v := range []int{-1, 6, math.MinInt, math.MaxInt} {
		for _, u := range []int{0, v} {
			same(t, y, u, v, false)
			same(t, y, v, u, false)
			offset(t, y, u, v, 0, 0, false)
			offset(t, y, v, u, 0, 0, false)
		}
	}
	same(t, y, 5, 5, true)
}

// P30.5: lists of edges that are not different edge numbers.
func TestFirst(t *testing.T) {
	for _, order := range [][]int{{12}, {-1}, {0, 2, 4, 0}, {0, 2, 4, 12}, {0, 2, 4, -1}, {math.MinInt}, {math.MaxInt}, make([]int, 99)} {
		first(t, 3, 2, order, 0, false, api.ErrArg)
	}
	first(t, 3, 2, nil, 0, false, api.OK)
	first(t, 3, 2, []int{0, 2, 1, 3, 5, 8, 6}, 0, false, api.OK)
	first(t, 3, 2, []int{11, 5}, 2, true, api.OK)
	first(t, 3, 2, []int{0, 2, 4, 1, 3}, 3, true, api.OK)
	first(t, 1, 1, []int{1, 0}, 1, true, api.OK)
	first(t, 1, 1, []int{2}, 0, false, api.ErrArg)
	const n = api.MaxVerts
	var order []int
	for v := range n {
		order = append(order, 2*v)
	}
	first(t, n, 1, order, n, true, api.OK)
	first(t, 1, n, order, 1, true, api.OK)
	first(t, n, 1, append(order, 2*n), 0, false, api.ErrArg)
	first(t, n, 1, order[1:], 0, false, api.OK)
	first(t, n, 1, append(order[1:], 2*n-1), n, true, api.OK)
}

// P30.6
func TestSpans(t *testing.T) {
	spans(t, 1, 1, nil, true, api.OK)
	spans(t, 1, 3, nil, true, api.OK)
	spans(t, 2, 1, nil, false, api.OK)
	spans(t, 2, 1, pairs(1, 0), true, api.OK)
	spans(t, 2, 2, pairs(0, 2, 1, 3), false, api.OK)
	spans(t, 2, 2, pairs(0, 3), true, api.OK)
	spans(t, 3, 2, pairs(3, 4, 1, 2), false, api.OK)
	// Any edges, also parallel ones and some between vertices that are far apart.
	spans(t, 3, 3, pairs(6, 1, 1, 6, 1, 5), true, api.OK)
	spans(t, 3, 3, pairs(7, 1, 1, 6, 0, 3), false, api.OK)
	spans(t, 3, 2, pairs(0, 6, 1, 1), false, api.ErrRange)
	spans(t, 3, 2, pairs(1, 1, 0, 6), false, api.ErrLoop)
	spans(t, 3, 2, pairs(-1, 0), false, api.ErrRange)
	spans(t, 3, 2, make([]api.Edge, api.MaxEdges+1), false, api.ErrArg)
	spans(t, 4096, 1, nil, false, api.OK)
}

// R4
func TestMemory(t *testing.T) {
	order, l := []int{0, 2, 1, 4, 4}, pairs(0, 1, 1, 2, 9, 9)
	first(t, 3, 2, order[:4], 4, true, api.OK)
	spans(t, 3, 2, l[:2], true, api.OK)
	if order[4] != 4 || l[2] != (api.Edge{U: 9, V: 9, W: 4}) {
		t.Errorf("%v, %v", order, l)
	}
}

// R2
func TestNotValid(t *testing.T) {
	for _, y := range []*wrapping.Torus{nil, {}} {
		for _, i := range []int{-1, 0, 1} {
			add(t, y, i, i, i, false, api.ErrNil)
			offset(t, y, i, i, 0, 0, false)
			same(t, y, i, i, false)
		}
		wraps(t, y, false, false)
		count(t, y, 0)
	}
}
