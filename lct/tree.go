package lct

import "slices"

// The sides of a node: what is above it on its path, and what is below it.
const (
	left = iota
	right
)

const none = -1

// node is a vertex. Each tree has a root, and is decomposed into paths that lead
// downwards; each path is a splay tree, in the order from the top to the bottom.
type node struct {
	kids [2]int
	// parent is the parent in the splay tree; of its root, the vertex above the
	// path.
	parent int
	// turned says that the path is to be reversed: the nodes of the subtree still
	// have the order from before that.
	turned bool
	key    int64
	// hidden is how many vertices the trees below v have that hang on v by other paths.
	hidden int
	// These are those of the subtree: how many vertices of the path it has, how
	// many it has with all that hangs on them, and the first one of the path.
	count int
	total int
	first int
}

// join makes a the root of its tree, and the path from it to b a splay tree with
// the root b. It reports whether there is one; otherwise b is the root of its path.
func (f *Forest) join(a, b int) bool {
	f.expose(a)
	f.nodes[a].turned = true
	f.expose(b)
	return a == b || f.nodes[a].parent != none
}

// expose makes the path from the root of a tree to v one splay tree with the root
// v. It returns the vertex at which the way up from v reached the path to the
// vertex that was exposed before.
func (f *Forest) expose(v int) int {
	below := none
	for at := v; at != none; at = f.nodes[at].parent {
		f.splay(at)
		n := &f.nodes[at]
		n.hidden += f.total(n.kids[right]) - f.total(below)
		n.kids[right] = below
		f.sumUp(at)
		below = at
	}
	f.splay(v)
	return below
}

// visit calls a function with the vertices of a subtree, from the top to the bottom.
func (f *Forest) visit(root int, see func(v int)) {
	// above contains the vertices whose left subtrees are being visited.
	var above []int
	for at := root; at != none || len(above) > 0; {
		if at != none {
			f.turn(at)
			above = append(above, at)
			at = f.nodes[at].kids[left]
			continue
		}
		last := len(above) - 1
		see(above[last])
		at = f.nodes[above[last]].kids[right]
		above = above[:last]
	}
}

// splay makes v the root of its splay tree.
func (f *Forest) splay(v int) {
	way := []int{v}
climb:
	for top := v; f.nodes[top].parent != none; {
		parent := f.nodes[top].parent
		for _, kid := range f.nodes[parent].kids {
			if kid == top {
				way = append(way, parent)
				top = parent
				continue climb
			}
		}
		break
	}
	for _, at := range slices.Backward(way) {
		f.turn(at)
	}
	for !f.top(v) {
		parent := f.nodes[v].parent
		switch {
		case f.top(parent):
		case f.side(v) == f.side(parent):
			f.rotate(parent)
		default:
			f.rotate(v)
		}
		f.rotate(v)
	}
}

// rotate exchanges v and its parent in the splay tree, whose subtrees are not to be reversed.
func (f *Forest) rotate(v int) {
	parent := f.nodes[v].parent
	above := f.nodes[parent].parent
	side := f.side(v)
	if !f.top(parent) {
		f.nodes[above].kids[f.side(parent)] = v
	}
	f.attach(parent, side, f.nodes[v].kids[1-side])
	f.attach(v, 1-side, parent)
	f.nodes[v].parent = above
	f.sumUp(parent)
	f.sumUp(v)
}

// top reports whether v is the root of its splay tree.
func (f *Forest) top(v int) bool {
	parent := f.nodes[v].parent
	return parent == none || f.nodes[parent].kids[left] != v && f.nodes[parent].kids[right] != v
}

// side returns on which side of its parent v is, which is not the root of its splay tree.
func (f *Forest) side(v int) int {
	if f.nodes[f.nodes[v].parent].kids[left] == v {
		return left
	}
	return right
}

// attach makes a node, or none, the child of another one.
func (f *Forest) attach(parent, side, kid int) {
	f.nodes[parent].kids[side] = kid
	if kid != none {
		f.nodes[kid].parent = parent
	}
}

// turn exchanges the children of v if its subtree is to be reversed; then their
// subtrees are to be reversed instead.
func (f *Forest) turn(v int) {
	n := &f.nodes[v]
	if !n.turned {
		return
	}
	n.turned = false
	n.kids[left], n.kids[right] = n.kids[right], n.kids[left]
	for _, kid := range n.kids {
		if kid != none {
			f.nodes[kid].turned = !f.nodes[kid].turned
		}
	}
}

// sumUp computes what is known of the subtree of v from that of its children.
func (f *Forest) sumUp(v int) {
	n := &f.nodes[v]
	n.count, n.total, n.first = 1, 1+n.hidden, v
	for _, kid := range n.kids {
		if kid == none {
			continue
		}
		k := &f.nodes[kid]
		n.count += k.count
		n.total += k.total
		if f.before(k.first, n.first) {
			n.first = k.first
		}
	}
}

// before reports whether a has the smaller key, or the same one and the smaller number.
func (f *Forest) before(a, b int) bool {
	x, y := f.nodes[a].key, f.nodes[b].key
	return x < y || x == y && a < b
}

// total returns how many vertices the subtree of a node, or of none, has with all
// that hangs on them.
func (f *Forest) total(v int) int {
	if v == none {
		return 0
	}
	return f.nodes[v].total
}
