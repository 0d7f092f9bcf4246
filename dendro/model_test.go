package dendro_test

import (
	"math/rand/v2"
	"slices"
	"strconv"
	"strings"
	"testing"

	"seepage/api"
	"seepage/dendro"
	"seepage/recon"
)

// model is a text as the definition describes it: what is left of it, the leaves
// that it has named, and whether it is well-formed so far.
type model struct {
	rest   string
	leaves []int
	good   bool
}

func (m *model) take(s string) {
	m.good = m.good && strings.HasPrefix(m.rest, s)
	m.rest = strings.TrimPrefix(m.rest, s)
}

// number reads a number in its only spelling.
func (m *model) number() int64 {
	end := strings.IndexAny(m.rest, "(,):;")
	if end < 0 {
		end = len(m.rest)
	}
	n, err := strconv.ParseInt(m.rest[:end], 10, 64)
	m.good = m.good && err == nil && strconv.FormatInt(n, 10) == m.rest[:end]
	m.rest = m.rest[end:]
	return n
}

// node reads a node, and returns its least leaf and its height (that of a leaf is
// below all others).
func (m *model) node() (int, int64) {
	if !m.good || !strings.HasPrefix(m.rest, "(") {
		n := m.number()
		m.leaves = append(m.leaves, int(n))
		return int(n), least
	}
	m.take("(")
	a, below := m.node()
	m.take(",")
	b, other := m.node()
	m.take("):")
	h := m.number()
	m.good = m.good && a < b && below <= h && other <= h
	return a, h
}

// wellFormed tells by the definition whether a text is the one of a tree.
func wellFormed(s string) bool {
	m := &model{rest: s, good: true}
	last := -1
	for m.good && m.rest != "" {
		first, _ := m.node()
		m.take(";")
		m.good = m.good && first > last
		last = first
	}
	slices.Sort(m.leaves)
	for i, leaf := range m.leaves {
		m.good = m.good && i == leaf
	}
	return m.good && len(m.leaves) <= api.MaxVerts
}

// checkText checks that a text is parsed exactly if it is well-formed, and then to
// a valid tree with this text.
func checkText(t *testing.T, s string) bool {
	t.Helper()
	if !wellFormed(s) {
		malformed(t, s)
		return false
	}
	tree, e := dendro.Parse(s)
	if e != api.OK || recon.Check(tree) != api.OK {
		t.Fatalf("Parse(%q) = %v, error %d, Check %d", s, tree, e, recon.Check(tree))
	}
	text(t, tree, s)
	return true
}

// P22.4: all short texts.
func TestShortTexts(t *testing.T) {
	const runes = "(,):;012-"
	found := 0
	var try func(s string, left int)
	try = func(s string, left int) {
		if checkText(t, s) {
			found++
		}
		if left > 0 {
			for _, c := range runes {
				try(s+string(c), left-1)
			}
		}
	}
	try("", 5)
	for height := range 1000 {
		for _, s := range []string{"(0,1):" + strconv.Itoa(height-500) + ";", "(0,1):" + strconv.Itoa(height) + "0;"} {
			if checkText(t, s) {
				found++
			}
		}
	}
	// The empty text, those of one and of two leaves, and all pairs but the one of
	// the height 00.
	if found != 1+1+1+1999 {
		t.Errorf("%d texts", found)
	}
}

// sample returns a random tree.
func sample(t *testing.T, r *rand.Rand) api.Tree {
	t.Helper()
	n := 1 + r.IntN(14)
	spread := []int64{1, 3, 40}[r.IntN(3)]
	var l []api.Edge
	for range r.IntN(2 * n) {
		if u, v := r.IntN(n), r.IntN(n); u != v {
			l = append(l, edge(u, v, r.Int64N(spread)-spread/2))
		}
	}
	return built(t, n, l...)
}

// P22.4: texts that were changed a little.
func TestChangedTexts(t *testing.T) {
	found := 0
	for seed := range uint64(20000) {
		r := rand.New(rand.NewPCG(seed, 224))
		s, _ := dendro.Text(sample(t, r))
		for range 1 + r.IntN(2) {
			i, k := r.IntN(len(s)+1), r.IntN(len(s)+1)
			switch r.IntN(4) {
			case 0:
				s = s[:min(i, k)] + s[max(i, k):]
			case 1:
				s = s[:i] + string("(,):;0123456789-"[r.IntN(16)]) + s[i:]
			case 2:
				if i < len(s) {
					s = s[:i] + string("(,):;0123456789-"[r.IntN(16)]) + s[i+1:]
				}
			case 3:
				if i < len(s) {
					s = s[:i] + s[i+1:]
				}
			}
		}
		if checkText(t, s) {
			found++
		}
	}
	if found < 500 {
		t.Errorf("%d well-formed texts", found)
	}
}

// P22.1 to P22.3, P22.5
func TestByDefinition(t *testing.T) {
	for seed := range uint64(300) {
		r := rand.New(rand.NewPCG(seed, 22))
		tree := sample(t, r)
		n, inner := tree.Leaves, len(tree.Left)-tree.Leaves
		firsts := recon.Least(tree)
		var want []api.Merge
		labels := make([]int, n)
		for v := range labels {
			labels[v] = v
		}
		cut(t, tree, n, labels, api.OK)
		for x := n; x < n+inner; x++ {
			a, b := firsts[tree.Left[x]], firsts[tree.Right[x]]
			want = append(want, merge(a, b, tree.Height[x], tree.Size[x]))
			for v := range labels {
				if labels[v] == b {
					labels[v] = a
				}
			}
			cut(t, tree, n-len(want), labels, api.OK)
			if x == n+inner-1 || tree.Height[x+1] > tree.Height[x] {
				at, _ := recon.Labels(tree, tree.Height[x])
				cut(t, tree, n-len(want), at, api.OK)
			}
		}
		cut(t, tree, n-inner-1, nil, api.ErrRange)
		merges(t, tree, want...)
		checkGap(t, tree, want)
		checkHeights(t, r, tree)
		checkRoundTrip(t, tree)
	}
}

func checkGap(t *testing.T, tree api.Tree, l []api.Merge) {
	t.Helper()
	if len(l) < 2 {
		gap(t, tree, 0, 0, api.ErrNone)
		return
	}
	at, by := 0, int64(-1)
	for i := 1; i < len(l); i++ {
		if d := l[i].Height.N - l[i-1].Height.N; d > by {
			at, by = i, d
		}
	}
	gap(t, tree, at, uint64(by), api.OK)
}

// checkHeights compares the cophenetic heights with the thresholds at which leaves
// have the same labels.
func checkHeights(t *testing.T, r *rand.Rand, tree api.Tree) {
	t.Helper()
	thetas := slices.Clone(tree.Height[tree.Leaves:])
	n := tree.Leaves
	for a := range n {
		for b := range n {
			joined, ok := int64(0), false
			for _, theta := range slices.Backward(thetas) {
				if labels, _ := recon.Labels(tree, theta); labels[a] == labels[b] {
					joined, ok = theta, true
				}
			}
			if a == b {
				joined, ok = least, true
			}
			height(t, tree, a, b, joined, ok)
		}
	}
	for range 20 {
		a, b, c := r.IntN(n), r.IntN(n), r.IntN(n)
		ab, okAB := dendro.Cophenetic(tree, a, b)
		bc, okBC := dendro.Cophenetic(tree, b, c)
		ac, okAC := dendro.Cophenetic(tree, a, c)
		if okAB && okBC && (!okAC || ac > max(ab, bc)) {
			t.Fatalf("Cophenetic of %d, %d, %d: %d, %d, %d", a, b, c, ab, bc, ac)
		}
	}
}

// checkRoundTrip compares a tree with the one of its text.
func checkRoundTrip(t *testing.T, tree api.Tree) {
	t.Helper()
	s, _ := dendro.Text(tree)
	if !wellFormed(s) {
		t.Fatalf("Text(%v) = %q", tree, s)
	}
	parsed, e := dendro.Parse(s)
	text(t, parsed, s)
	heights := tree.Height[tree.Leaves:]
	if len(slices.Compact(slices.Clone(heights))) == len(heights) && !same(parsed, tree) || !dendro.Same(parsed, tree) {
		t.Fatalf("Parse(%q) = %v, error %d; expected %v", s, parsed, e, tree)
	}
	for _, theta := range append(slices.Clone(heights), least, -1, 0, 1, most) {
		a, _ := recon.Labels(tree, theta)
		b, _ := recon.Labels(parsed, theta)
		if !slices.Equal(a, b) {
			t.Fatalf("%v and %v at %d: %v, %v", tree, parsed, theta, a, b)
		}
	}
	for a := range tree.Leaves {
		h, ok := dendro.Cophenetic(tree, 0, a)
		height(t, parsed, 0, a, h, ok)
	}
}
