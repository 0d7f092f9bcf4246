package recon_test

import (
	"math/rand/v2"
	"slices"
	"testing"

	"seepage/api"
	"seepage/graph"
	"seepage/kruskal"
	"seepage/recon"
)

// sample returns random edges between n vertices.
func sample(r *rand.Rand, n, edges int, spread int64) []api.Edge {
	var l []api.Edge
	for range edges {
		u := r.IntN(n)
		l = append(l, edge(u, (u+1+r.IntN(n-1))%n, r.Int64N(spread)-spread/2))
	}
	return l
}

// below returns the leaves below a node, or false if there is a cycle, or a child
// that does not exist.
func below(t api.Tree, node, steps int) ([]int, bool) {
	if node < 0 || node >= len(t.Left) || steps == 0 {
		return nil, false
	}
	if node < t.Leaves {
		return []int{node}, true
	}
	a, okA := below(t, t.Left[node], steps-1)
	b, okB := below(t, t.Right[node], steps-1)
	both := slices.Concat(a, b)
	slices.Sort(both)
	return both, okA && okB
}

// valid tells by the definition whether a tree of lists with the same length, with
// at least as many nodes as leaves, is valid.
func valid(t api.Tree) bool {
	nodes := len(t.Left)
	for x := range nodes {
		p := t.Parent[x]
		if p != -1 && (p < 0 || p >= nodes || t.Left[p] != x && t.Right[p] != x) {
			return false
		}
		if x < t.Leaves {
			if t.Left[x] != -1 || t.Right[x] != -1 || t.Height[x] != 0 || t.Size[x] != 1 {
				return false
			}
			continue
		}
		a, b := t.Left[x], t.Right[x]
		if a == b || a < 0 || b < 0 || a >= x || b >= x || t.Parent[a] != x || t.Parent[b] != x {
			return false
		}
		first, okA := below(t, a, nodes)
		second, okB := below(t, b, nodes)
		if !okA || !okB || first[0] >= second[0] || t.Size[x] != len(first)+len(second) {
			return false
		}
		if x-1 >= t.Leaves && t.Height[x] < t.Height[x-1] {
			return false
		}
	}
	return true
}

// change changes some numbers of a tree.
func change(r *rand.Rand, t *api.Tree) {
	nodes := len(t.Left)
	for range 1 + r.IntN(3) {
		x := r.IntN(nodes)
		y := r.IntN(nodes)
		switch r.IntN(9) {
		case 0:
			t.Left[x] = r.IntN(nodes+2) - 1
		case 1:
			t.Right[x] = r.IntN(nodes+2) - 1
		case 2:
			t.Parent[x] = r.IntN(nodes+2) - 1
		case 3:
			t.Height[x] += r.Int64N(3) - 1
		case 4:
			t.Size[x] += r.IntN(3) - 1
		case 5:
			t.Left[x], t.Right[x] = t.Right[x], t.Left[x]
		case 6:
			t.Left[x], t.Left[y] = t.Left[y], t.Left[x]
			t.Parent[x], t.Parent[y] = t.Parent[y], t.Parent[x]
		case 7:
			t.Height[x], t.Height[y] = t.Height[y], t.Height[x]
		case 8:
			t.Leaves = max(0, min(nodes, t.Leaves+r.IntN(3)-1))
		}
	}
}

// P18.2: trees that were changed a little.
func TestChangedTrees(t *testing.T) {
	was := map[bool]int{}
	for seed := range uint64(6000) {
		r := rand.New(rand.NewPCG(seed, 182))
		n := 2 + r.IntN(6)
		tree := built(t, n, sample(r, n, r.IntN(2*n), 4)...)
		change(r, &tree)
		want := api.ErrArg
		if valid(tree) {
			want = api.OK
		}
		if got := recon.Check(tree); got != want {
			t.Fatalf("Check(%v) = %d, expected %d", tree, got, want)
		}
		if want == api.OK {
			checkTree(t, r, tree)
		} else {
			refused(t, tree)
		}
		was[want == api.OK]++
	}
	if was[true] < 100 || was[false] < 100 {
		t.Errorf("%v", was)
	}
}

// checkTree compares what is said about a valid tree with the definitions.
func checkTree(t *testing.T, r *rand.Rand, tree api.Tree) {
	t.Helper()
	var roots, firsts []int
	for x := range tree.Left {
		leaves, _ := below(tree, x, len(tree.Left))
		list(t, "Leaves", recon.Leaves(tree, x), leaves...)
		firsts = append(firsts, leaves[0])
		if tree.Parent[x] == -1 {
			roots = append(roots, x)
		}
	}
	slices.SortFunc(roots, func(a, b int) int { return firsts[a] - firsts[b] })
	list(t, "Roots", recon.Roots(tree), roots...)
	list(t, "Least", recon.Least(tree), firsts...)
	theta := r.Int64N(8) - 4
	var want []int
	for leaf := range tree.Leaves {
		x := leaf
		for tree.Parent[x] >= 0 && tree.Height[tree.Parent[x]] <= theta {
			x = tree.Parent[x]
		}
		top(t, tree, leaf, theta, x, api.OK)
		want = append(want, firsts[x])
	}
	labels(t, tree, theta, want, api.OK)
}

// P18.1, P18.3 to P18.5
func TestByDefinition(t *testing.T) {
	for seed := range uint64(150) {
		r := rand.New(rand.NewPCG(seed, 18))
		n := 2 + r.IntN(30)
		l := sample(r, n, r.IntN(3*n), 9)
		tree := built(t, n, l...)
		checkTree(t, r, tree)
		checkInner(t, n, l, tree)
		g, _ := graph.New(n, l)
		for theta := int64(-6); theta < 6; theta++ {
			labels(t, tree, theta, g.Under(theta).Labels(), api.OK)
		}
		if inner := len(tree.Left) - n; inner+len(recon.Roots(tree)) != n {
			t.Fatalf("%d leaves, %d inner nodes, roots %v", n, inner, recon.Roots(tree))
		}
	}
}

// checkInner checks that each inner node is made by the edge of the forest that
// the definition names.
func checkInner(t *testing.T, n int, l []api.Edge, tree api.Tree) {
	t.Helper()
	forest, _ := kruskal.Forest(n, l)
	if len(tree.Left) != n+len(forest) {
		t.Fatalf("%d nodes, %d leaves, forest %v", len(tree.Left), n, forest)
	}
	for i, at := range forest {
		x := n + i
		if tree.Height[x] != l[at].W {
			t.Fatalf("node %d of %v: height %d, edge %v", x, tree, tree.Height[x], l[at])
		}
		// The children are the highest nodes below x over both ends.
		ends := []int{l[at].U, l[at].V}
		for k := range ends {
			for tree.Parent[ends[k]] >= 0 && tree.Parent[ends[k]] < x {
				ends[k] = tree.Parent[ends[k]]
			}
		}
		if !slices.Contains(ends, tree.Left[x]) || !slices.Contains(ends, tree.Right[x]) {
			t.Fatalf("node %d of %v: edge %v", x, tree, l[at])
		}
	}
}
