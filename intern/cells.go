package intern

import "iter"

// cells find the indexes of ids by open addressing: a cell contains an index
// plus 1, or 0 if it is empty. Their number is a power of 2, and at least half
// of them are empty, so that probes are short, and end.
type cells []int

// newCells returns empty cells for at most that many ids.
func newCells(ids int) cells {
	n := 2
	for n < 2*ids {
		n *= 2
	}
	return make(cells, n)
}

// wrap returns the cell with a number, where the first cell follows the last one.
func (c cells) wrap(n int) int {
	return n & (len(c) - 1)
}

// home returns the cell at which the probe for an id begins.
func (c cells) home(id uint64) int {
	// The factor, 2^64 divided by the golden ratio, spreads ids that lie close
	// together; the upper half depends on all bits of the id.
	const factor = 0x9e3779b97f4a7c15
	id = (id ^ id>>32) * factor
	return c.wrap(int(id >> 33))
}

// from goes over all cells, from one on.
func (c cells) from(cell int) iter.Seq[int] {
	return func(yield func(int) bool) {
		for k := range len(c) {
			if !yield(c.wrap(cell + k)) {
				return
			}
		}
	}
}

// steps returns how many cells behind a the cell b is.
func (c cells) steps(a, b int) int {
	return c.wrap(b - a)
}
