package dendro

import (
	"cmp"
	"slices"
	"strconv"

	"seepage/api"
)

// reader goes over a text. A well-formed one is read as it is meant; of another
// one, if it is read at all, comes a tree that is not valid or has another text.
//
// Leaves are named by their numbers, and inner nodes by MaxVerts and more, in the
// order in which they end in the text.
type reader struct {
	// open contains for each inner node that is not closed its first child, or none.
	open []int
	// closed tells whether an inner node is closed, and its height is missing.
	closed bool
	// leaves is how many leaves were read.
	leaves int
	// pairs contains the children of the inner nodes, and heights their heights.
	pairs   [][2]int
	heights []int64
}

// read goes over a text, and reports whether all of it was read.
func read(s string) (*reader, bool) {
	r := &reader{}
	// start is where the number begins that is being read.
	start := 0
	fits := true
scan:
	for i, c := range s {
		switch c {
		case '(':
			r.open = append(r.open, none)
		case ',', ')', ';':
			fits = r.end(s[start:i], c)
		case '-', '0', '1', '2', '3', '4', '5', '6', '7', '8', '9':
			continue
		default:
			fits = c == ':'
		}
		if !fits {
			break scan
		}
		start = i + 1
	}
	return r, fits && !r.closed
}

// end ends a node with a number, and puts it where the rune behind it says.
func (r *reader) end(number string, c rune) bool {
	n, err := strconv.ParseInt(number, 10, 64)
	if err != nil {
		return false
	}
	node := int(n)
	if r.closed {
		node = api.MaxVerts + len(r.heights)
		r.heights = append(r.heights, n)
		r.closed = false
	} else {
		r.leaves++
		if n < 0 || n >= api.MaxVerts {
			return false
		}
	}
	if c == ';' {
		return true
	}
	last := len(r.open) - 1
	if last < 0 {
		return false
	}
	if c == ',' {
		r.open[last] = node
		return true
	}
	first := r.open[last]
	r.pairs = append(r.pairs, [2]int{first, node})
	r.open, r.closed = r.open[:last], true
	return first != none
}

// tree returns the tree of what was read, which need not be valid. It reports
// whether there are enough leaves for their numbers.
func (r *reader) tree() (api.Tree, bool) {
	nodes := r.leaves + len(r.pairs)
	t := api.Tree{
		Leaves: r.leaves,
		Left:   slices.Repeat([]int{none}, nodes),
		Right:  slices.Repeat([]int{none}, nodes),
		Parent: slices.Repeat([]int{none}, nodes),
		Height: make([]int64, nodes),
		Size:   slices.Repeat([]int{1}, nodes),
	}
	order := make([]int, len(r.pairs))
	for i := range order {
		order[i] = i
	}
	slices.SortStableFunc(order, func(a, b int) int { return cmp.Compare(r.heights[a], r.heights[b]) })
	// numbers contains the number of each inner node in the tree.
	numbers := make([]int, len(order))
	for k, i := range order {
		numbers[i] = r.leaves + k
	}
	for _, i := range order {
		x := numbers[i]
		var kids [2]int
		for side, node := range r.pairs[i] {
			if node >= api.MaxVerts {
				node = numbers[node-api.MaxVerts]
			} else if node >= r.leaves {
				return api.Tree{}, false
			}
			t.Parent[node] = x
			kids[side] = node
		}
		t.Left[x], t.Right[x] = kids[0], kids[1]
		t.Height[x] = r.heights[i]
		t.Size[x] = t.Size[kids[0]] + t.Size[kids[1]]
	}
	return t, true
}
