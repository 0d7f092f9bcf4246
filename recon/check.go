package recon

import (
	"slices"

	"seepage/api"
)

// inspect returns ErrArg if a tree is not valid, and otherwise the least leaf below
// each node.
func inspect(t api.Tree) ([]int, api.Errno) {
	nodes := len(t.Parent)
	if t.Leaves < 0 || t.Leaves > min(nodes, api.MaxVerts) {
		return nil, api.ErrArg
	}
	if len(t.Left) != nodes || len(t.Right) != nodes || len(t.Height) != nodes || len(t.Size) != nodes {
		return nil, api.ErrArg
	}
	least := make([]int, nodes)
	// Each condition relies on those before it, and on what holds for smaller nodes.
	ofLeaf := []func(x int) bool{
		func(x int) bool { return t.Left[x] == none && t.Right[x] == none },
		func(x int) bool { return t.Height[x] == 0 && t.Size[x] == 1 },
		func(x int) bool { return fits(t, x) },
	}
	ofInner := []func(x int) bool{
		func(x int) bool { return t.Left[x] != t.Right[x] },
		func(x int) bool { return min(t.Left[x], t.Right[x]) >= 0 && max(t.Left[x], t.Right[x]) < x },
		func(x int) bool { return t.Parent[t.Left[x]] == x && t.Parent[t.Right[x]] == x },
		func(x int) bool { return least[t.Left[x]] < least[t.Right[x]] },
		func(x int) bool { return t.Size[x] == t.Size[t.Left[x]]+t.Size[t.Right[x]] },
		func(x int) bool { return x == t.Leaves || t.Height[x] >= t.Height[x-1] },
		func(x int) bool { return fits(t, x) },
	}
	holds := func(x int) bool {
		conditions := ofInner
		if x < t.Leaves {
			conditions = ofLeaf
		}
		return !slices.ContainsFunc(conditions, func(condition func(int) bool) bool { return !condition(x) })
	}
	for x := range nodes {
		if !holds(x) {
			return nil, api.ErrArg
		}
		least[x] = x
		if x >= t.Leaves {
			least[x] = least[t.Left[x]]
		}
	}
	return least, api.OK
}

// fits reports whether the parent of a node, if there is one, has it as a child.
func fits(t api.Tree, x int) bool {
	parent := t.Parent[x]
	if parent < 0 || parent >= len(t.Parent) {
		return parent == none
	}
	return t.Left[parent] == x || t.Right[parent] == x
}
