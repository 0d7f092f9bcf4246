package recon_test

import (
	"math"
	"slices"
	"testing"

	"seepage/api"
	"seepage/recon"
)

const (
	least = math.MinInt64
	most  = math.MaxInt64
)

func edge(u, v int, w int64) api.Edge { return api.Edge{U: u, V: v, W: w} }

func same(a, b api.Tree) bool {
	return a.Leaves == b.Leaves && slices.Equal(a.Left, b.Left) && slices.Equal(a.Right, b.Right) &&
		slices.Equal(a.Parent, b.Parent) && slices.Equal(a.Height, b.Height) && slices.Equal(a.Size, b.Size)
}

func copied(t api.Tree) api.Tree {
	return api.Tree{Leaves: t.Leaves, Left: slices.Clone(t.Left), Right: slices.Clone(t.Right), Parent: slices.Clone(t.Parent),
		Height: slices.Clone(t.Height), Size: slices.Clone(t.Size)}
}

func built(t *testing.T, n int, l ...api.Edge) api.Tree {
	t.Helper()
	tree, e := recon.Build(n, l)
	if e != api.OK || recon.Check(tree) != api.OK {
		t.Fatalf("Build(%d, %d edges): error %d, Check %d", n, len(l), e, recon.Check(tree))
	}
	return tree
}

// example is the tree of the chapter's example.
func example(t *testing.T) api.Tree {
	t.Helper()
	return built(t, 4, edge(0, 1, 5), edge(2, 1, 3), edge(0, 2, 4))
}

func top(t *testing.T, tree api.Tree, leaf int, theta int64, want int, we api.Errno) {
	t.Helper()
	if got, e := recon.Top(tree, leaf, theta); got != want || e != we {
		t.Fatalf("Top(%v, %d, %d) = %d, error %d; expected %d, error %d", tree, leaf, theta, got, e, want, we)
	}
}

func labels(t *testing.T, tree api.Tree, theta int64, want []int, we api.Errno) {
	t.Helper()
	if got, e := recon.Labels(tree, theta); !slices.Equal(got, want) || e != we {
		t.Fatalf("Labels(%v, %d) = %v, error %d; expected %v, error %d", tree, theta, got, e, want, we)
	}
}

func list(t *testing.T, name string, got []int, want ...int) {
	t.Helper()
	if !slices.Equal(got, want) {
		t.Fatalf("%s: %v, expected %v", name, got, want)
	}
}

// P18.1, P18.3, P18.4: the chapter's example.
func TestExample(t *testing.T) {
	tree := example(t)
	if want := (api.Tree{Leaves: 4, Left: []int{-1, -1, -1, -1, 1, 0}, Right: []int{-1, -1, -1, -1, 2, 4},
		Parent: []int{5, 4, 4, -1, 5, -1}, Height: []int64{0, 0, 0, 0, 3, 4}, Size: []int{1, 1, 1, 1, 2, 3}}); !same(tree, want) {
		t.Fatalf("Build: %v", tree)
	}
	list(t, "Roots", recon.Roots(tree), 5, 3)
	list(t, "Least", recon.Least(tree), 0, 1, 2, 3, 1, 0)
	list(t, "Leaves(5)", recon.Leaves(tree, 5), 0, 1, 2)
	list(t, "Leaves(4)", recon.Leaves(tree, 4), 1, 2)
	list(t, "Leaves(3)", recon.Leaves(tree, 3), 3)
	list(t, "Leaves(0)", recon.Leaves(tree, 0), 0)
	top(t, tree, 1, 3, 4, api.OK)
	top(t, tree, 1, 2, 1, api.OK)
	top(t, tree, 1, 9, 5, api.OK)
	top(t, tree, 1, 4, 5, api.OK)
	top(t, tree, 3, most, 3, api.OK)
	labels(t, tree, 3, []int{0, 1, 1, 3}, api.OK)
	labels(t, tree, 2, []int{0, 1, 2, 3}, api.OK)
	labels(t, tree, 4, []int{0, 0, 0, 3}, api.OK)
	labels(t, tree, least, []int{0, 1, 2, 3}, api.OK)
	labels(t, tree, most, []int{0, 0, 0, 3}, api.OK)
}

// P18.1: the errors of graph.New, in its order.
func TestBuildErrors(t *testing.T) {
	for _, c := range []struct {
		n    int
		l    []api.Edge
		want api.Errno
	}{
		{-1, nil, api.ErrArg}, {math.MinInt, nil, api.ErrArg}, {api.MaxVerts + 1, nil, api.ErrArg}, {math.MaxInt, nil, api.ErrArg},
		{-1, []api.Edge{edge(0, 0, 0)}, api.ErrArg}, {2, make([]api.Edge, api.MaxEdges+1), api.ErrArg},
		{2, []api.Edge{edge(0, 2, 0), edge(0, 0, 0)}, api.ErrRange}, {2, []api.Edge{edge(0, 0, 0), edge(0, 2, 0)}, api.ErrLoop},
		{2, []api.Edge{edge(-1, 0, 0)}, api.ErrRange}, {0, []api.Edge{edge(0, 1, 0)}, api.ErrRange},
	} {
		if got, e := recon.Build(c.n, c.l); !same(got, api.Tree{}) || e != c.want {
			t.Errorf("Build(%d, %d edges): %v, error %d; expected %d", c.n, len(c.l), got, e, c.want)
		}
	}
}

// P18.1: trees of small graphs, with the ends of the range of weights.
func TestBuild(t *testing.T) {
	if got := built(t, 0); !same(got, api.Tree{}) {
		t.Errorf("Build(0): %v", got)
	}
	for _, f := range []func(int) []int{func(int) []int { return recon.Roots(built(t, 0)) }, func(int) []int { return recon.Least(built(t, 0)) }} {
		list(t, "without leaves", f(0))
	}
	labels(t, built(t, 0), 0, nil, api.OK)
	one := built(t, 1)
	if !same(one, api.Tree{Leaves: 1, Left: []int{-1}, Right: []int{-1}, Parent: []int{-1}, Height: []int64{0}, Size: []int{1}}) {
		t.Errorf("Build(1): %v", one)
	}
	list(t, "Roots", recon.Roots(one), 0)
	// Equal weights in the order of their indexes; of parallel edges only the first one.
	tree := built(t, 5, edge(4, 3, most), edge(1, 2, least), edge(2, 1, least), edge(3, 2, most), edge(4, 0, least))
	if want := (api.Tree{Leaves: 5, Left: []int{-1, -1, -1, -1, -1, 1, 0, 6, 7}, Right: []int{-1, -1, -1, -1, -1, 2, 4, 3, 5},
		Parent: []int{6, 5, 5, 7, 6, 8, 7, 8, -1}, Height: []int64{0, 0, 0, 0, 0, least, least, most, most}, Size: []int{1, 1, 1, 1, 1, 2, 2, 3, 5}}); !same(tree, want) {
		t.Fatalf("Build: %v", tree)
	}
	top(t, tree, 2, least, 5, api.OK)
	top(t, tree, 3, most-1, 3, api.OK)
	top(t, tree, 3, most, 8, api.OK)
	labels(t, tree, least, []int{0, 1, 1, 3, 0}, api.OK)
	labels(t, tree, most-1, []int{0, 1, 1, 3, 0}, api.OK)
	labels(t, tree, most, []int{0, 0, 0, 0, 0}, api.OK)
}

// P18.1 to P18.4: as many leaves as there can be.
func TestLargestTrees(t *testing.T) {
	const n = api.MaxVerts
	var path, star []api.Edge
	for v := range n - 1 {
		path = append(path, edge(v, v+1, int64(n-v)))
		star = append(star, edge(n-1, v, 7))
	}
	for _, l := range [][]api.Edge{path, star} {
		tree := built(t, n, l...)
		list(t, "Roots", recon.Roots(tree), 2*n-2)
		if got := recon.Leaves(tree, 2*n-2); len(got) != n || got[n-1] != n-1 {
			t.Errorf("Leaves: %d", len(got))
		}
		top(t, tree, n-1, n, 2*n-2, api.OK)
		labels(t, tree, n, make([]int, n), api.OK)
	}
	top(t, built(t, n, path...), n-1, n-1, 2*n-3, api.OK)
	tree := built(t, n)
	tree.Leaves++
	for _, l := range []*[]int{&tree.Left, &tree.Right, &tree.Parent} {
		*l = append(*l, -1)
	}
	tree.Height, tree.Size = append(tree.Height, 0), append(tree.Size, 1)
	refused(t, tree)
}

// refused checks that a tree is not valid, and what that means for all functions.
func refused(t *testing.T, tree api.Tree) {
	t.Helper()
	if e := recon.Check(tree); e != api.ErrArg {
		t.Fatalf("Check: %d", e)
	}
	if recon.Roots(tree) != nil || recon.Least(tree) != nil || recon.Leaves(tree, 0) != nil || recon.Leaves(tree, -1) != nil {
		t.Fatalf("Roots %v, Least %v, Leaves %v", recon.Roots(tree), recon.Least(tree), recon.Leaves(tree, 0))
	}
	for _, leaf := range []int{0, -1, math.MaxInt} {
		if got, e := recon.Top(tree, leaf, 0); got != 0 || e != api.ErrArg {
			t.Fatalf("Top: %d, error %d", got, e)
		}
	}
	if got, e := recon.Labels(tree, 0); got != nil || e != api.ErrArg {
		t.Fatalf("Labels: %v, error %d", got, e)
	}
}

// P18.2 to P18.4: each condition of a valid tree.
func TestCheck(t *testing.T) {
	for i, change := range []func(t *api.Tree){
		func(t *api.Tree) { t.Leaves = -1 },
		func(t *api.Tree) { t.Leaves = math.MinInt },
		func(t *api.Tree) { t.Leaves = math.MaxInt },
		func(t *api.Tree) { t.Leaves = 3 },
		func(t *api.Tree) { t.Leaves = 5 },
		func(t *api.Tree) { t.Leaves = 7 },
		func(t *api.Tree) { t.Left = t.Left[:5] },
		func(t *api.Tree) { t.Right = t.Right[:5] },
		func(t *api.Tree) { t.Parent = t.Parent[:5] },
		func(t *api.Tree) { t.Height = t.Height[:5] },
		func(t *api.Tree) { t.Size = t.Size[:5] },
		func(t *api.Tree) { t.Left = append(t.Left, -1) },
		func(t *api.Tree) { t.Right = append(t.Right, -1) },
		func(t *api.Tree) { t.Parent = append(t.Parent, -1) },
		func(t *api.Tree) { t.Height = append(t.Height, 5) },
		func(t *api.Tree) { t.Size = append(t.Size, 1) },
		func(t *api.Tree) { t.Left, t.Right, t.Parent, t.Height, t.Size = nil, nil, nil, nil, nil },
		func(t *api.Tree) { t.Left[0] = 0 },
		func(t *api.Tree) { t.Left[3] = -2 },
		func(t *api.Tree) { t.Right[0] = 1 },
		func(t *api.Tree) { t.Right[3] = -2 },
		func(t *api.Tree) { t.Height[0] = 1 },
		func(t *api.Tree) { t.Height[3] = -1 },
		func(t *api.Tree) { t.Size[0] = 0 },
		func(t *api.Tree) { t.Size[3] = 2 },
		func(t *api.Tree) { t.Left[4] = 2 },
		func(t *api.Tree) { t.Left[4], t.Right[4] = 2, 1 },
		func(t *api.Tree) { t.Left[5], t.Right[5] = 4, 0 },
		func(t *api.Tree) { t.Left[4] = -1 },
		func(t *api.Tree) { t.Right[4] = -1 },
		func(t *api.Tree) { t.Right[5] = 5 },
		func(t *api.Tree) { t.Right[5] = 6 },
		func(t *api.Tree) { t.Left[5] = math.MinInt },
		func(t *api.Tree) { t.Right[5] = math.MaxInt },
		func(t *api.Tree) { t.Left[4] = 0 },
		func(t *api.Tree) { t.Right[4] = 3 },
		func(t *api.Tree) { t.Parent[1] = -1 },
		func(t *api.Tree) { t.Parent[2] = -1 },
		func(t *api.Tree) { t.Parent[1] = 5 },
		func(t *api.Tree) { t.Parent[3] = 4 },
		func(t *api.Tree) { t.Parent[3] = 0 },
		func(t *api.Tree) { t.Parent[3] = 3 },
		func(t *api.Tree) { t.Parent[3] = 6 },
		func(t *api.Tree) { t.Parent[3] = -2 },
		func(t *api.Tree) { t.Parent[3] = math.MinInt },
		func(t *api.Tree) { t.Parent[3] = math.MaxInt },
		func(t *api.Tree) { t.Parent[5] = 4 },
		func(t *api.Tree) { t.Parent[5] = 5 },
		func(t *api.Tree) { t.Size[4] = 3 },
		func(t *api.Tree) { t.Size[5] = 2 },
		func(t *api.Tree) { t.Size[4], t.Size[5] = 1, 2 },
		func(t *api.Tree) { t.Size[4], t.Size[5] = math.MaxInt, math.MinInt },
		func(t *api.Tree) { t.Height[4] = 5 },
		func(t *api.Tree) { t.Height[5] = 2 },
		func(t *api.Tree) { t.Height[5] = least },
		// A cycle of two inner nodes.
		func(t *api.Tree) { t.Left[4], t.Parent[5], t.Parent[1] = 5, 4, -1 },
	} {
		tree := example(t)
		change(&tree)
		t.Log("change", i)
		refused(t, tree)
	}
	for _, change := range []func(t *api.Tree){
		func(t *api.Tree) { t.Height[4] = 4 },
		func(t *api.Tree) { t.Height[5] = 3 },
		func(t *api.Tree) { t.Height[4], t.Height[5] = least, most },
		func(t *api.Tree) { t.Height[4], t.Height[5] = -9, -9 },
	} {
		tree := example(t)
		change(&tree)
		if e := recon.Check(tree); e != api.OK {
			t.Errorf("Check(%v) = %d", tree, e)
		}
	}
	// Inner nodes without leaves, and one node that is its own child.
	refused(t, api.Tree{Left: []int{-1}, Right: []int{-1}, Parent: []int{-1}, Height: []int64{0}, Size: []int{0}})
	refused(t, api.Tree{Left: []int{0}, Right: []int{0}, Parent: []int{0}, Height: []int64{0}, Size: []int{0}})
	refused(t, api.Tree{Leaves: 1, Left: []int{-1, 0}, Right: []int{-1, 0}, Parent: []int{1, -1}, Height: []int64{0, 0}, Size: []int{1, 2}})
	if recon.Check(api.Tree{}) != api.OK {
		t.Errorf("Check of the tree without leaves: %d", recon.Check(api.Tree{}))
	}
}

// P18.2: all pairs of children, in a tree in which no other node depends on them.
func TestChildren(t *testing.T) {
	children := []int{math.MinInt, -2, -1, 0, 1, 2, 3, 4, math.MaxInt}
	for _, left := range children {
		for _, right := range children {
			for _, parents := range [][]int{{2, 2, -1}, {2, -1, -1}, {-1, 2, -1}, {-1, -1, -1}, {-1, 2, 2}, {2, -1, 2}} {
				tree := api.Tree{Leaves: 2, Left: []int{-1, -1, left}, Right: []int{-1, -1, right}, Parent: parents, Height: []int64{0, 0, 0}, Size: []int{1, 1, 2}}
				if left != 0 || right != 1 || parents[0] != 2 || parents[1] != 2 {
					refused(t, tree)
				} else if recon.Check(tree) != api.OK {
					t.Errorf("Check(%v) = %d", tree, recon.Check(tree))
				}
			}
		}
	}
}

// P18.3, P18.4: nodes that do not exist.
func TestNoNodes(t *testing.T) {
	tree := example(t)
	for _, node := range []int{-1, 6, math.MinInt, math.MaxInt} {
		if got := recon.Leaves(tree, node); got != nil {
			t.Errorf("Leaves(%d): %v", node, got)
		}
		top(t, tree, node, 9, 0, api.ErrRange)
	}
	top(t, tree, 4, 9, 0, api.ErrRange)
	top(t, api.Tree{}, 0, 0, 0, api.ErrRange)
}

// R4
func TestMemory(t *testing.T) {
	l := []api.Edge{edge(0, 1, 5), edge(2, 1, 3), edge(0, 2, 4), edge(9, 9, 9)}
	tree, _ := recon.Build(4, l[:3])
	want := copied(tree)
	clear(l[:3])
	clear(recon.Roots(tree))
	clear(recon.Least(tree))
	clear(recon.Leaves(tree, 5))
	got, _ := recon.Labels(tree, 3)
	clear(append(got, 1, 2))
	if !same(tree, want) || l[3] != edge(9, 9, 9) {
		t.Errorf("%v, %v", tree, l)
	}
	clear(tree.Left)
	if !slices.Equal(tree.Right, want.Right) || !slices.Equal(tree.Parent, want.Parent) || !slices.Equal(tree.Size, want.Size) {
		t.Errorf("%v", tree)
	}
}
