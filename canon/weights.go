package canon

import "iter"

// weights returns the weights of m trials with the probability p.
func weights(m int, p float64) []float64 {
	if p == 0 {
		// Otherwise the products with -0 would be -0, too.
		p = 0
	}
	w := make([]float64, m+1)
	// outward makes the weights from a number of successes, or of failures, up to m;
	// at says which weight is that of such a number.
	outward := func(from int, odds float64, at func(k int) int) {
		w[at(from)] = 1
		for k := from; k < m; k++ {
			quotient := float64(m-k) / float64(k+1)
			w[at(k+1)] = (w[at(k)] * quotient) * odds
		}
	}
	// The weights are greatest here, so that none of the others can be too great. If
	// p is 0 or 1, the odds by which nothing is multiplied are not finite.
	mode := min(int(float64(m+1)*p), m)
	outward(mode, p/(1-p), func(k int) int { return k })
	outward(m-mode, (1-p)/p, func(k int) int { return m - k })
	total := 0.0
	for _, x := range w {
		total += x
	}
	for k := range w {
		w[k] /= total
	}
	return w
}

// average returns the weighted sum of some numbers, with the weights of as many
// trials, less one.
func average(numbers []float64, p float64) float64 {
	sum := 0.0
	for term := range terms(numbers, weights(len(numbers)-1, p)) {
		sum += term
	}
	return sum
}

// terms goes over the terms of a weighted sum.
func terms(numbers, weights []float64) iter.Seq[float64] {
	return func(yield func(term float64) bool) {
		for k, x := range numbers {
			// Without the conversion, the product could be added without being rounded.
			if !yield(float64(x * weights[k])) {
				return
			}
		}
	}
}
