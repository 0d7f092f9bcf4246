package msort

import "slices"

// sort returns the elements of a list in order, and the number of its inversions.
func sort[E any](l []E, before func(a, b E) bool) ([]E, int64) {
	if len(l) < 2 {
		return slices.Clone(l), 0
	}
	half := len(l) / 2
	a, inA := sort(l[:half], before)
	b, inB := sort(l[half:], before)
	merged, between := merge(a, b, before)
	return merged, inA + inB + between
}

// merge returns the elements of two lists that are in order as one, and the
// number of pairs of an element of a and one of b that is before it.
func merge[E any](a, b []E, before func(x, y E) bool) ([]E, int64) {
	merged := make([]E, 0, len(a)+len(b))
	inversions := int64(0)
	i := 0
	for _, y := range b {
		for i < len(a) && !before(y, a[i]) {
			merged = append(merged, a[i])
			i++
		}
		// What is left of a follows y, though it came first.
		inversions += int64(len(a) - i)
		merged = append(merged, y)
	}
	return append(merged, a[i:]...), inversions
}
