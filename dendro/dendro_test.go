package dendro_test

import (
	"math"
	"slices"
	"strings"
	"testing"

	"seepage/api"
	"seepage/dendro"
	"seepage/recon"
)

const (
	least = math.MinInt64
	most  = math.MaxInt64
)

func edge(u, v int, w int64) api.Edge { return api.Edge{U: u, V: v, W: w} }

func built(t *testing.T, n int, l ...api.Edge) api.Tree {
	t.Helper()
	tree, e := recon.Build(n, l)
	if e != api.OK {
		t.Fatalf("Build(%d, %d edges): error %d", n, len(l), e)
	}
	return tree
}

func same(a, b api.Tree) bool {
	return a.Leaves == b.Leaves && slices.Equal(a.Left, b.Left) && slices.Equal(a.Right, b.Right) &&
		slices.Equal(a.Parent, b.Parent) && slices.Equal(a.Height, b.Height) && slices.Equal(a.Size, b.Size)
}

// example is the tree of layer 18's example.
func example(t *testing.T) api.Tree {
	t.Helper()
	return built(t, 4, edge(0, 1, 5), edge(2, 1, 3), edge(0, 2, 4))
}

func merge(a, b int, height int64, size int) api.Merge {
	return api.Merge{A: a, B: b, Height: api.Frac{N: height, D: 1}, Size: size}
}

func merges(t *testing.T, tree api.Tree, want ...api.Merge) {
	t.Helper()
	if got, e := dendro.Merges(tree); !slices.Equal(got, want) || e != api.OK {
		t.Fatalf("Merges(%v) = %v, error %d; expected %v", tree, got, e, want)
	}
}

func cut(t *testing.T, tree api.Tree, k int, want []int, we api.Errno) {
	t.Helper()
	if got, e := dendro.Cut(tree, k); !slices.Equal(got, want) || e != we {
		t.Fatalf("Cut(%v, %d) = %v, error %d; expected %v, error %d", tree, k, got, e, want, we)
	}
}

func gap(t *testing.T, tree api.Tree, want int, by uint64, we api.Errno) {
	t.Helper()
	if at, got, e := dendro.Gap(tree); at != want || got != by || e != we {
		t.Fatalf("Gap(%v) = %d, %d, error %d; expected %d, %d, error %d", tree, at, got, e, want, by, we)
	}
}

func height(t *testing.T, tree api.Tree, a, b int, want int64, wok bool) {
	t.Helper()
	if got, ok := dendro.Cophenetic(tree, a, b); got != want || ok != wok {
		t.Fatalf("Cophenetic(%v, %d, %d) = %d, %t; expected %d, %t", tree, a, b, got, ok, want, wok)
	}
}

func text(t *testing.T, tree api.Tree, want string) {
	t.Helper()
	if got, e := dendro.Text(tree); got != want || e != api.OK {
		t.Fatalf("Text(%v) = %q, error %d; expected %q", tree, got, e, want)
	}
}

func parse(t *testing.T, s string, want api.Tree) {
	t.Helper()
	if got, e := dendro.Parse(s); !same(got, want) || e != api.OK {
		t.Fatalf("Parse(%q) = %v, error %d; expected %v", s, got, e, want)
	}
}

func malformed(t *testing.T, s string) {
	t.Helper()
	if got, e := dendro.Parse(s); !same(got, api.Tree{}) || e != api.ErrForm {
		t.Fatalf("Parse(%.80q) = %d leaves, error %d", s, got.Leaves, e)
	}
}

// P22.1 to P22.4: the chapter's examples.
func TestExamples(t *testing.T) {
	tree := example(t)
	text(t, tree, "(0,(1,2):3):4;3;")
	parse(t, "(0,(1,2):3):4;3;", tree)
	merges(t, tree, merge(1, 2, 3, 2), merge(0, 1, 4, 3))
	cut(t, tree, 2, []int{0, 0, 0, 3}, api.OK)
	cut(t, tree, 3, []int{0, 1, 1, 3}, api.OK)
	cut(t, tree, 4, []int{0, 1, 2, 3}, api.OK)
	cut(t, tree, 1, nil, api.ErrRange)
	cut(t, tree, 5, nil, api.ErrRange)
	gap(t, tree, 1, 1, api.OK)
	height(t, tree, 0, 2, 4, true)
	height(t, tree, 2, 0, 4, true)
	height(t, tree, 1, 2, 3, true)
	height(t, tree, 1, 3, 0, false)
	height(t, tree, 3, 3, least, true)
	parse(t, "", api.Tree{})
	for _, s := range []string{"0", "1;", "1;0;", "(1,0):5;", "(0,1):-0;", "((0,1):5,2):4;", "0; 1;"} {
		malformed(t, s)
	}
}

// P22.1 to P22.4: trees without leaves, and without merges.
func TestSmallTrees(t *testing.T) {
	empty := built(t, 0)
	text(t, empty, "")
	merges(t, empty)
	cut(t, empty, 0, nil, api.OK)
	cut(t, empty, 1, nil, api.ErrRange)
	cut(t, empty, -1, nil, api.ErrRange)
	gap(t, empty, 0, 0, api.ErrNone)
	height(t, empty, 0, 0, 0, false)
	lonely := built(t, 2)
	text(t, lonely, "0;1;")
	parse(t, "0;1;", lonely)
	merges(t, lonely)
	cut(t, lonely, 2, []int{0, 1}, api.OK)
	cut(t, lonely, 1, nil, api.ErrRange)
	gap(t, lonely, 0, 0, api.ErrNone)
	height(t, lonely, 0, 1, 0, false)
	pair := built(t, 2, edge(1, 0, -7))
	text(t, pair, "(0,1):-7;")
	parse(t, "(0,1):-7;", pair)
	merges(t, pair, merge(0, 1, -7, 2))
	cut(t, pair, 1, []int{0, 0}, api.OK)
	cut(t, pair, 2, []int{0, 1}, api.OK)
	gap(t, pair, 0, 0, api.ErrNone)
}

// P22.1 to P22.4: numbers that are out of range.
func TestBadArguments(t *testing.T) {
	tree := example(t)
	for _, i := range []int{-1, 0, 1, 5, math.MinInt, math.MaxInt} {
		cut(t, tree, i, nil, api.ErrRange)
	}
	for _, v := range []int{-1, 4, 5, 6, math.MinInt, math.MaxInt} {
		height(t, tree, v, 0, 0, false)
		height(t, tree, 0, v, 0, false)
		height(t, tree, v, v, 0, false)
	}
}

// P22.1 to P22.4: trees that are not valid.
func TestNotValid(t *testing.T) {
	for i, change := range []func(t *api.Tree){
		func(t *api.Tree) { t.Leaves = -1 },
		func(t *api.Tree) { t.Leaves = 5 },
		func(t *api.Tree) { t.Size = t.Size[:5] },
		func(t *api.Tree) { t.Left[5], t.Right[5] = 4, 0 },
		func(t *api.Tree) { t.Parent[3] = 3 },
		func(t *api.Tree) { t.Height[5] = 2 },
		func(t *api.Tree) { t.Size[4] = 1 },
		func(t *api.Tree) { t.Right[5] = 5 },
	} {
		tree := example(t)
		change(&tree)
		t.Log("change", i)
		if got, e := dendro.Merges(tree); got != nil || e != api.ErrArg {
			t.Errorf("Merges: %v, error %d", got, e)
		}
		for k := range 7 {
			cut(t, tree, k-1, nil, api.ErrArg)
			height(t, tree, 0, k-1, 0, false)
		}
		gap(t, tree, 0, 0, api.ErrArg)
		height(t, tree, 0, 0, 0, false)
		if got, e := dendro.Text(tree); got != "" || e != api.ErrArg {
			t.Errorf("Text: %q, error %d", got, e)
		}
		if dendro.Same(tree, tree) || dendro.Same(tree, example(t)) || dendro.Same(example(t), tree) || dendro.Same(api.Tree{}, tree) || dendro.Same(tree, api.Tree{}) {
			t.Errorf("Same")
		}
	}
	empty := api.Tree{Left: []int{0}}
	gap(t, empty, 0, 0, api.ErrArg)
}

// P22.2: differences above 2^63, equal ones, and none.
func TestGap(t *testing.T) {
	path := func(weights ...int64) api.Tree {
		var l []api.Edge
		for i, w := range weights {
			l = append(l, edge(i, i+1, w))
		}
		return built(t, len(weights)+1, l...)
	}
	gap(t, path(least, most), 1, math.MaxUint64, api.OK)
	gap(t, path(least, -1, most), 2, 1<<63, api.OK)
	gap(t, path(least, 0, most), 1, 1<<63, api.OK)
	gap(t, path(3, 3), 1, 0, api.OK)
	gap(t, path(3, 3, 3, 3), 1, 0, api.OK)
	gap(t, path(1, 3, 5, 6, 8), 1, 2, api.OK)
	gap(t, path(8, 6, 5, 1, 4), 1, 3, api.OK)
	gap(t, path(1, 1, 2), 2, 1, api.OK)
}

// P22.4: texts that differ only a little from the one of a tree.
func TestParse(t *testing.T) {
	parse(t, "0;", built(t, 1))
	parse(t, "((0,2):-1,1):0;", built(t, 3, edge(0, 2, -1), edge(0, 1, 0)))
	parse(t, "(0,1):9223372036854775807;(2,3):-9223372036854775808;", built(t, 4, edge(0, 1, most), edge(2, 3, least)))
	// Nodes of the same height are numbered as they end in the text.
	parse(t, "(0,(1,2):3):3;(3,4):3;", built(t, 5, edge(1, 2, 3), edge(0, 1, 3), edge(3, 4, 3)))
	parse(t, "((0,3):2,(1,2):2):2;", built(t, 4, edge(0, 3, 2), edge(1, 2, 2), edge(0, 1, 2)))
	parse(t, "(0,3):5;(1,2):4;", built(t, 4, edge(0, 3, 5), edge(1, 2, 4)))
	for _, s := range []string{
		";", "(", ")", ",", ":", "-", "0,", "0)", "0:", "0:1;", "-0;", "-1;", "+0;", "00;", "0;;", ";0;", "0;0;", "0;2;", "0;1", "0;01;",
		"(0,1)", "(0,1);", "(0,1):", "(0,1):;", "(0,1):5", "(0,1):05;", "(0,1):+5;", "(0,1):--5;", "(0,1):5-;", "(0,1):-;", "(0,1)5;", "(0,1)5:;", "(0,1)::5;", "(0,1):5:;",
		"(0,1):5:6;", "(0,1):5;;", "(0,1):5;2", "(0,1):5,", "(0,1):5)", "(0,1):5;)", "0,1):5;", "(0):5;", "(0,):5;", "(,1):5;", "(,):5;", "():5;", "(0,1,2):5;", "((0,1):5;", "(0,1):5(;",
		"(0,0):5;", "(0,2):5;", "(0,1):5;0;", "(0,1):5;1;", "(0,1):5;3;", "2;(0,1):5;", "(2,(0,1):3):4;", "((1,2):3,0):4;", "((0,1):5,(2,3):5):4;", "(0,(1,2):5):4;",
		"(0,1):9223372036854775808;", "(0,1):-9223372036854775809;", "(0,1):99999999999999999999999;", "99999999999999999999999;", "4096;", "(0,9223372036854775807):1;",
		"0(;", "(0(,1):5;", "0(1,2):3;", "(0,1):(2,3):4;", "(0,1):5;(", "(0;1):5;", "(0,1;", " 0;", "0; ", "0;\n", "0 ;", "(0, 1):5;", "(0,1): 5;", "(0,1):5.0;", "(0,1):5e1;", "(0,1):0x5;", "(0,1):1_0;", "a;", "0;b", "\x00", "\xff", "0;\xff", "٠;", "(0,1):５;",
		"(-0,1):5;", "(0,-1):5;", "((0,1):3,2:5);", "(0,1):1;(2,3:2);",
	} {
		malformed(t, s)
	}
	// Children that are greater than all leaves, and as many as there can be.
	malformed(t, "((0,4096):1,(1,4097):1):2;")
	malformed(t, strings.Repeat("(", 1<<20))
	malformed(t, strings.Repeat("0;", 1<<20))
	malformed(t, strings.Repeat("(0,", 1<<20))
	malformed(t, strings.Repeat("9", 1<<20))
	malformed(t, "(0,1):"+strings.Repeat("0", 1<<20)+";")
}

// P22.1 to P22.4: as many leaves as there can be, in the highest trees.
func TestLargestTrees(t *testing.T) {
	const n = api.MaxVerts
	for _, back := range []bool{false, true} {
		var l []api.Edge
		for v := range n - 1 {
			w := int64(v)
			if back {
				w = -w
			}
			l = append(l, edge(v, v+1, w))
		}
		tree := built(t, n, l...)
		s, e := dendro.Text(tree)
		if e != api.OK {
			t.Fatalf("Text: error %d", e)
		}
		parse(t, s, tree)
		malformed(t, s+"4096;")
		malformed(t, strings.Replace(s, "4095", "4096", 1))
		malformed(t, "("+s)
		if got, e := dendro.Cut(tree, 1); e != api.OK || slices.Max(got) != 0 {
			t.Errorf("Cut: error %d", e)
		}
		height(t, tree, 0, n-1, tree.Height[2*n-2], true)
		gap(t, tree, 1, 1, api.OK)
	}
	lonely := built(t, n)
	s, _ := dendro.Text(lonely)
	parse(t, s, lonely)
	malformed(t, s+"4096;")
	malformed(t, s+"0;")
}

// P22.4
func TestSame(t *testing.T) {
	// The nodes of the same height have other numbers.
	a := built(t, 4, edge(0, 1, 5), edge(2, 3, 5))
	b := built(t, 4, edge(2, 3, 5), edge(0, 1, 5))
	if same(a, b) || !dendro.Same(a, b) || !dendro.Same(a, a) {
		t.Errorf("Same of %v and %v", a, b)
	}
	text(t, b, "(0,1):5;(2,3):5;")
	parse(t, "(0,1):5;(2,3):5;", a)
	for _, other := range []api.Tree{built(t, 4, edge(0, 1, 5), edge(2, 3, 6)), built(t, 4, edge(0, 1, 5)), built(t, 5, edge(0, 1, 5), edge(2, 3, 5)), {}} {
		if dendro.Same(a, other) || dendro.Same(other, a) {
			t.Errorf("Same of %v and %v", a, other)
		}
	}
	if !dendro.Same(api.Tree{}, built(t, 0)) {
		t.Errorf("Same of trees without leaves")
	}
}

// R4
func TestMemory(t *testing.T) {
	tree := example(t)
	got, _ := dendro.Cut(tree, 3)
	clear(append(got, 9, 9, 9))
	list, _ := dendro.Merges(tree)
	clear(list)
	if !same(tree, example(t)) {
		t.Errorf("%v", tree)
	}
	parsed, _ := dendro.Parse("(0,(1,2):3):4;3;")
	clear(parsed.Left)
	if want := example(t); !slices.Equal(parsed.Right, want.Right) || !slices.Equal(parsed.Parent, want.Parent) || !slices.Equal(parsed.Size, want.Size) {
		t.Errorf("%v", parsed)
	}
}
