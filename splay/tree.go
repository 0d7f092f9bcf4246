package splay

import (
	"iter"
	"slices"
)

// The sides of a node: what comes before it, and what comes behind it.
const (
	left = iota
	right
)

const none = -1

// node is a node of a splay tree: each sequence is a tree, in which the nodes
// before another one are to the left of it.
type node struct {
	kids   [2]int
	parent int
	// turned says that the subtree is to be reversed: its nodes still have the order
	// from before that.
	turned bool
	value  int64
	// These are those of the subtree.
	size  int
	least int
	sum   sum
}

// up goes over the nodes from x up to its root.
func (s *Seqs) up(x int) iter.Seq[int] {
	return func(yield func(int) bool) {
		for at := x; at != none && yield(at); {
			at = s.nodes[at].parent
		}
	}
}

// splay makes x the root of its tree.
func (s *Seqs) splay(x int) {
	for _, at := range slices.Backward(slices.Collect(s.up(x))) {
		s.turn(at)
	}
	for s.nodes[x].parent != none {
		parent := s.nodes[x].parent
		switch {
		case s.nodes[parent].parent == none:
		case s.side(x) == s.side(parent):
			s.rotate(parent)
		default:
			s.rotate(x)
		}
		s.rotate(x)
	}
}

// descend returns the node at a position that exists of the sequence of a root,
// and makes it the root, so that a long way down is not gone again.
func (s *Seqs) descend(root, k int) int {
	at := root
	for {
		s.turn(at)
		kids := s.nodes[at].kids
		before := s.size(kids[left])
		if k == before {
			s.splay(at)
			return at
		}
		if k < before {
			at = kids[left]
		} else {
			at = kids[right]
			k -= before + 1
		}
	}
}

// rotate exchanges x and its parent, whose subtrees are not to be reversed.
func (s *Seqs) rotate(x int) {
	parent := s.nodes[x].parent
	top := s.nodes[parent].parent
	side := s.side(x)
	if top == none {
		s.nodes[x].parent = none
	} else {
		s.attach(top, s.side(parent), x)
	}
	s.attach(parent, side, s.nodes[x].kids[1-side])
	s.attach(x, 1-side, parent)
	s.sumUp(parent)
	s.sumUp(x)
}

// side returns on which side of its parent x is.
func (s *Seqs) side(x int) int {
	if s.nodes[s.nodes[x].parent].kids[left] == x {
		return left
	}
	return right
}

// attach makes a node, or none, the child of another one.
func (s *Seqs) attach(parent, side, kid int) {
	s.nodes[parent].kids[side] = kid
	if kid != none {
		s.nodes[kid].parent = parent
	}
}

// turn exchanges the children of x if its subtree is to be reversed; then their
// subtrees are to be reversed instead.
func (s *Seqs) turn(x int) {
	n := &s.nodes[x]
	if !n.turned {
		return
	}
	n.turned = false
	n.kids[left], n.kids[right] = n.kids[right], n.kids[left]
	for _, kid := range n.kids {
		if kid != none {
			s.nodes[kid].turned = !s.nodes[kid].turned
		}
	}
}

// sumUp computes what is known of the subtree of x from that of its children.
func (s *Seqs) sumUp(x int) {
	n := &s.nodes[x]
	n.size, n.least, n.sum = 1, x, sumOf(n.value)
	for _, kid := range n.kids {
		if kid == none {
			continue
		}
		k := &s.nodes[kid]
		n.size += k.size
		n.sum = n.sum.plus(k.sum)
		if s.before(k.least, n.least) {
			n.least = k.least
		}
	}
}

// before reports whether a has the smaller value, or the same one and the smaller number.
func (s *Seqs) before(a, b int) bool {
	v, w := s.nodes[a].value, s.nodes[b].value
	return v < w || v == w && a < b
}

// size returns the size of the subtree of a node, or of none.
func (s *Seqs) size(x int) int {
	if x == none {
		return 0
	}
	return s.nodes[x].size
}
