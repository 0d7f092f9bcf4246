package wrapping_test

import (
	"math/rand/v2"
	"testing"

	"seepage/api"
	"seepage/wrapping"
)

// model is a torus as the definition describes it: its edge numbers.
type model struct {
	w, h  int
	edges []int
}

// steps returns the steps from a vertex: to which vertex, and by how much.
func (m *model) steps(v int) (steps [][3]int) {
	for _, number := range m.edges {
		from, to, dx, dy := number/2, 0, 0, 0
		x, y := from%m.w, from/m.w
		if number%2 == 0 {
			to, dx = y*m.w+(x+1)%m.w, 1
		} else {
			to, dy = (y+1)%m.h*m.w+x, 1
		}
		if from == v {
			steps = append(steps, [3]int{to, dx, dy})
		}
		if to == v {
			steps = append(steps, [3]int{from, -dx, -dy})
		}
	}
	return steps
}

// walks returns for each vertex of a component the displacement of a walk to it,
// and whether there are closed walks with a displacement in each direction.
func (m *model) walks(from int) (at map[int][2]int, across, down bool) {
	at = map[int][2]int{from: {}}
	for queue := []int{from}; len(queue) > 0; queue = queue[1:] {
		v := queue[0]
		for _, step := range m.steps(v) {
			x, y := at[v][0]+step[1], at[v][1]+step[2]
			if old, seen := at[step[0]]; seen {
				across = across || old[0] != x
				down = down || old[1] != y
			} else {
				at[step[0]] = [2]int{x, y}
				queue = append(queue, step[0])
			}
		}
	}
	return at, across, down
}

// compare compares all that a torus shows with the definition.
func (m *model) compare(t *testing.T, y *wrapping.Torus) {
	t.Helper()
	across, down, components := false, false, 0
	for a := range m.w * m.h {
		at, acrossA, downA := m.walks(a)
		across, down = across || acrossA, down || downA
		least := a
		for b := range m.w * m.h {
			d, ok := at[b]
			same(t, y, a, b, ok)
			if ok && !acrossA && !downA {
				offset(t, y, a, b, d[0], d[1], true)
			} else {
				offset(t, y, a, b, 0, 0, false)
			}
			if ok {
				least = min(least, b)
			}
		}
		if least == a {
			components++
		}
	}
	wraps(t, y, across, down)
	count(t, y, components)
}

// P30.2 to P30.5, P30.7
func TestByDefinition(t *testing.T) {
	for seed := range uint64(150) {
		r := rand.New(rand.NewPCG(seed, 30))
		w, h := 1+r.IntN(5), 1+r.IntN(5)
		m, y := &model{w: w, h: h}, made(t, w, h)
		order := r.Perm(2 * w * h)
		var wrapped int
		for k, number := range order {
			m.edges = append(m.edges, number)
			before := y.Count()
			v := number / 2
			joins, e := y.Add(v%w, v/w, number%2)
			if e != api.OK || joins != (y.Count() < before) {
				t.Fatalf("Add: %t, error %d; Count was %d, and is %d", joins, e, before, y.Count())
			}
			across, down := y.Wraps()
			if wrapped == 0 && (across || down) {
				wrapped = k + 1
			}
			if k < 6 || r.IntN(5) == 0 {
				m.compare(t, y)
			}
			if r.IntN(4) == 0 {
				again := m.edges[r.IntN(len(m.edges))]
				add(t, y, again/2%w, again/2/w, again%2, false, api.OK)
			}
		}
		wraps(t, y, true, true)
		m.compare(t, y)
		if wrapped < min(w, h) {
			t.Fatalf("%d by %d wraps after %d edges", w, h, wrapped)
		}
		first(t, w, h, order, wrapped, true, api.OK)
		first(t, w, h, order[:wrapped], wrapped, true, api.OK)
		first(t, w, h, order[:wrapped-1], 0, false, api.OK)
	}
}

// P30.7: other orders of the edges, and columns and rows exchanged.
func TestProperties(t *testing.T) {
	for seed := range uint64(150) {
		r := rand.New(rand.NewPCG(seed, 307))
		w, h := 1+r.IntN(6), 1+r.IntN(6)
		edges := r.Perm(2 * w * h)[:r.IntN(w*h+1)]
		a, b, turned := made(t, w, h), made(t, w, h), made(t, h, w)
		for _, number := range edges {
			a.Add(number/2%w, number/2/w, number%2)
		}
		for _, k := range r.Perm(len(edges)) {
			x, y, dir := edges[k]/2%w, edges[k]/2/w, edges[k]%2
			b.Add(x, y, dir)
			turned.Add(y, x, 1-dir)
		}
		across, down := a.Wraps()
		wraps(t, b, across, down)
		wraps(t, turned, down, across)
		count(t, b, a.Count())
		count(t, turned, a.Count())
		for range 60 {
			u, v, x := r.IntN(w*h), r.IntN(w*h), r.IntN(w*h)
			same(t, b, u, v, a.Same(u, v))
			dx, dy, ok := a.Offset(u, v)
			offset(t, b, u, v, dx, dy, ok)
			offset(t, b, v, u, -dx, -dy, ok)
			offset(t, turned, u%w*h+u/w, v%w*h+v/w, dy, dx, ok)
			if ex, ey, on := a.Offset(v, x); ok && on {
				offset(t, a, u, x, dx+ex, dy+ey, true)
			}
		}
	}
}

// P30.6
func TestSpansByDefinition(t *testing.T) {
	was := map[bool]int{}
	for seed := range uint64(300) {
		r := rand.New(rand.NewPCG(seed, 306))
		w, h := 1+r.IntN(5), 1+r.IntN(5)
		var l []api.Edge
		if w*h > 1 {
			for range r.IntN(2 * w * h) {
				u := r.IntN(w * h)
				l = append(l, api.Edge{U: u, V: (u + 1 + r.IntN(w*h-1)) % (w * h)})
			}
		}
		reached := map[int]bool{}
		for y := range h {
			reached[y*w] = true
		}
		for range w * h {
			for _, edge := range l {
				if reached[edge.U] || reached[edge.V] {
					reached[edge.U], reached[edge.V] = true, true
				}
			}
		}
		want := false
		for y := range h {
			want = want || reached[y*w+w-1]
		}
		spans(t, w, h, l, want, api.OK)
		was[want]++
	}
	if was[true] < 50 || was[false] < 50 {
		t.Errorf("%v", was)
	}
}
