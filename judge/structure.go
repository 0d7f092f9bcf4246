package judge

import (
	"slices"

	"seepage/api"
)

// rows returns the rows of the graph while edges are added one after the other.
func (p *picture) rows(l []api.Edge) []api.Row {
	n := len(p.ids)
	row := api.Row{Largest: min(n, 1), Count: n, Squares: int64(n)}
	rows := []api.Row{row}
	sets := p.sets()
	for _, edge := range l {
		x, y := sets.Size(edge.U), sets.Size(edge.V)
		if joined, _ := sets.Union(edge.U, edge.V); joined {
			row.Largest = max(row.Largest, x+y)
			row.Count--
			row.Squares += 2 * int64(x) * int64(y)
		}
		rows = append(rows, row)
	}
	return rows
}

// numbers returns a row as numbers.
func numbers(row api.Row) []int64 {
	return []int64{int64(row.Largest), int64(row.Count), row.Squares}
}

// sweep returns the rows by weight.
func (p *picture) sweep() api.Reply {
	var r api.Reply
	l := p.byWeight()
	rows := p.rows(l)
	for i, edge := range l {
		if i+1 == len(l) || l[i+1].W > edge.W {
			r.Nums = append(append(r.Nums, edge.W), numbers(rows[i+1])...)
		}
	}
	return r
}

// random returns the rows of the order that draws give.
func (p *picture) random(draws []uint64) api.Reply {
	l := slices.Clone(p.edges)
	if len(draws) < len(l)-1 {
		return api.Reply{Err: api.ErrDraws}
	}
	for i := range len(l) - 1 {
		k := i + int(draws[i]%uint64(len(l)-i))
		l[i], l[k] = l[k], l[i]
	}
	var r api.Reply
	for _, row := range p.rows(l) {
		r.Nums = append(r.Nums, numbers(row)...)
	}
	return r
}

// bridges returns the sequence numbers of the edges whose ends are not connected
// without them, where so many edges are expired.
func (p *picture) bridges(expired uint64) api.Reply {
	var r api.Reply
	sets := p.sets()
	for i, edge := range p.edges {
		// An edge that closes a cycle is none.
		if joined, _ := sets.Union(edge.U, edge.V); joined && p.parts(i) {
			r.IDs = append(r.IDs, expired+uint64(i)+1)
		}
	}
	return r
}

// parts reports whether the ends of an edge are not connected without it.
func (p *picture) parts(i int) bool {
	sets := p.sets()
	for k, edge := range p.edges {
		if k != i {
			sets.Union(edge.U, edge.V)
		}
	}
	return !sets.Same(p.edges[i].U, p.edges[i].V)
}

// cores returns the core numbers. Again and again, a vertex with the smallest degree
// is removed.
func (p *picture) cores() api.Reply {
	degrees := make([]int, len(p.ids))
	for v := range degrees {
		degrees[v] = p.graph.Degree(v)
	}
	removed := make([]bool, len(p.ids))
	nums := make([]int64, len(p.ids))
	number := 0
	for range p.ids {
		least := -1
		for v, degree := range degrees {
			if !removed[v] && (least < 0 || degree < degrees[least]) {
				least = v
			}
		}
		number = max(number, degrees[least])
		nums[least] = int64(number)
		removed[least] = true
		for _, other := range p.graph.Around(least) {
			degrees[other]--
		}
	}
	return api.Reply{IDs: p.ids, Nums: nums}
}
