package heap

import (
	"cmp"

	"seepage/api"
)

// compare compares two entries: -1 if a is before b, 0 or 1.
func compare(a, b api.Entry) int {
	if c := cmp.Compare(a.Key, b.Key); c != 0 {
		return c
	}
	return cmp.Compare(a.Index, b.Index)
}

// settle moves the entry at a place, the only one that may be out of order, to
// where it belongs.
func (h *Heap) settle(at int) {
	// Of two neighbours, the one above has the lower place: so it is the same
	// comparison that tells whether they change places, in both directions.
	sift := func(neighbour func(at int) int) {
		for {
			next := neighbour(at)
			above, below := min(at, next), max(at, next)
			if compare(h.entries[below], h.entries[above]) >= 0 {
				return
			}
			h.exchange(above, below)
			at = next
		}
	}
	sift(h.parent)
	sift(h.child)
}

// parent returns the place above another one; at the top, that place itself.
func (h *Heap) parent(at int) int {
	return max(0, at-1) / 2
}

// child returns the place of the first one of the entries below a place; if
// there is none, that place itself.
func (h *Heap) child(at int) int {
	left, right := 2*at+1, 2*at+2
	if left >= len(h.entries) {
		return at
	}
	if right < len(h.entries) && compare(h.entries[right], h.entries[left]) < 0 {
		return right
	}
	return left
}

// exchange exchanges the entries at two places.
func (h *Heap) exchange(a, b int) {
	h.entries[a], h.entries[b] = h.entries[b], h.entries[a]
	h.places.set(h.entries[a].Index, a)
	h.places.set(h.entries[b].Index, b)
}
