package wrapping

// displacement is how far a walk leads: to the right, and down.
type displacement [2]int

// place is where a vertex is: a vertex of its component, which is itself for the
// root, and the displacement of a walk from there to the vertex. Of a root it says
// whether the component wraps in some direction.
type place struct {
	parent int
	offset displacement
	wraps  bool
}

func (d displacement) plus(o displacement) displacement {
	return displacement{d[0] + o[0], d[1] + o[1]}
}

func (d displacement) minus(o displacement) displacement {
	return displacement{d[0] - o[0], d[1] - o[1]}
}

// join adds an edge over which a walk from u to v has a displacement. It reports
// whether that joins two components.
func (t *Torus) join(u, v int, step displacement) bool {
	rootU, toU := t.find(u)
	rootV, toV := t.find(v)
	// This leads from one root by the edge to the other one.
	between := toU.plus(step).minus(toV)
	if rootU != rootV {
		t.places[rootV].parent, t.places[rootV].offset = rootU, between
		t.places[rootU].wraps = t.places[rootU].wraps || t.places[rootV].wraps
		t.count--
		return true
	}
	if between != (displacement{}) {
		t.places[rootU].wraps = true
		t.across = t.across || between[0] != 0
		t.down = t.down || between[1] != 0
	}
	return false
}

// find returns the root of the component of v, and the displacement of a walk from
// it to v. It attaches all vertices on the way directly to the root.
func (t *Torus) find(v int) (int, displacement) {
	climb := func(see func(p *place)) int {
		at := v
		for t.places[at].parent != at {
			p := &t.places[at]
			at = p.parent
			see(p)
		}
		return at
	}
	var whole displacement
	root := climb(func(p *place) { whole = whole.plus(p.offset) })
	rest := whole
	climb(func(p *place) {
		step := p.offset
		p.parent, p.offset = root, rest
		rest = rest.minus(step)
	})
	return root, whole
}
