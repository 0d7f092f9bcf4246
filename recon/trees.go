package recon

// trees are the trees that a reconstruction has so far, as sets of leaves. Each
// leaf has a pair of numbers: a leaf of its set that is not greater, which is the
// leaf itself only if it is the least one; and of the least leaf, the root node.
type trees [][2]int

// alone returns n trees with one leaf each.
func alone(n int) trees {
	t := make(trees, n)
	for leaf := range n {
		t[leaf] = [2]int{leaf, leaf}
	}
	return t
}

// unite makes a node the root of the trees of two leaves, which are different. It
// returns their roots, the one with the smaller least leaf first.
func (t trees) unite(a, b, node int) (left, right int) {
	a, b = t.least(a), t.least(b)
	least, other := min(a, b), max(a, b)
	left, right = t[least][1], t[other][1]
	t[other][0] = least
	t[least][1] = node
	return left, right
}

// least returns the least leaf of a tree, and makes the way to it shorter by half.
func (t trees) least(leaf int) int {
	for t[leaf][0] != leaf {
		above := t[t[leaf][0]][0]
		t[leaf][0] = above
		leaf = above
	}
	return leaf
}
