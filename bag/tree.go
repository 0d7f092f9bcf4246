package bag

// The sides of a node: its smaller numbers, and its greater ones.
const (
	left = iota
	right
)

// node is a node of a balanced binary search tree (AVL), in which the heights
// of two siblings differ by at most 1. A nil node is an empty tree. A node never
// changes: a change of the tree makes new nodes from the place up to the root.
type node struct {
	x        int64
	count    int
	kids     [2]*node
	height   int
	size     int // the sum of the counts of the subtree
	distinct int // the number of the nodes of the subtree
}

// update returns the tree in which change has been applied to the count of x,
// which is 0 for a number that is not there.
func (n *node) update(x int64, change func(count int) int) *node {
	if n == nil {
		return (&node{x: x}).counted(change(0))
	}
	if x == n.x {
		return n.counted(change(n.count))
	}
	side := n.side(x)
	return n.with(side, n.kids[side].update(x, change)).balanced()
}

// counted returns the tree with another count of the number at its root.
func (n *node) counted(count int) *node {
	if count == 0 {
		return n.dropped()
	}
	c := *n
	c.count = count
	return c.with(left, c.kids[left])
}

// dropped returns the tree without the number at its root.
func (n *node) dropped() *node {
	if n.kids[right] == nil {
		return n.kids[left]
	}
	next := n.kids[right].kth(0)
	c := *n
	c.x, c.count = next.x, next.count
	rest := c.kids[right].update(next.x, func(int) int { return 0 })
	return c.with(right, rest).balanced()
}

// with returns the node with another child on a side.
func (n *node) with(side int, kid *node) *node {
	c := *n
	c.kids[side] = kid
	l, r := c.kids[left], c.kids[right]
	c.height = 1 + max(l.high(), r.high())
	c.size = l.total() + c.count + r.total()
	c.distinct = l.nodes() + 1 + r.nodes()
	return &c
}

// balanced returns the tree with siblings of heights that differ by at most 1,
// if those of the root differ by at most 2, and all others are balanced.
func (n *node) balanced() *node {
	for side, kid := range n.kids {
		if kid.high() <= n.kids[1-side].high()+1 {
			continue
		}
		if kid.kids[1-side].high() > kid.kids[side].high() {
			n = n.with(side, kid.lifted(1-side))
		}
		return n.lifted(side)
	}
	return n
}

// lifted returns the tree with the child on a side as its root.
func (n *node) lifted(side int) *node {
	kid := n.kids[side]
	return kid.with(1-side, n.with(side, kid.kids[1-side]))
}

// find returns the node of a number, or nil.
func (n *node) find(x int64) *node {
	for n != nil && n.x != x {
		n = n.kids[n.side(x)]
	}
	return n
}

// kth returns the node of the element with the index k, which exists.
func (n *node) kth(k int) *node {
	for {
		before := n.kids[left].total()
		switch {
		case k < before:
			n = n.kids[left]
		case k < before+n.count:
			return n
		default:
			k -= before + n.count
			n = n.kids[right]
		}
	}
}

// rank returns how many elements are smaller than x.
func (n *node) rank(x int64) int {
	smaller := 0
	for n != nil {
		if n.x < x {
			smaller += n.kids[left].total() + n.count
		}
		n = n.kids[n.side(x)]
	}
	return smaller
}

// walk yields the numbers in increasing order, and reports whether to go on.
func (n *node) walk(yield func(int64, int) bool) bool {
	return n == nil || n.kids[left].walk(yield) && yield(n.x, n.count) && n.kids[right].walk(yield)
}

// side returns the side on which x is, if it is not the number of the node.
func (n *node) side(x int64) int {
	if x <= n.x {
		return left
	}
	return right
}

func (n *node) times() int {
	if n == nil {
		return 0
	}
	return n.count
}

func (n *node) high() int {
	if n == nil {
		return 0
	}
	return n.height
}

func (n *node) total() int {
	if n == nil {
		return 0
	}
	return n.size
}

func (n *node) nodes() int {
	if n == nil {
		return 0
	}
	return n.distinct
}
