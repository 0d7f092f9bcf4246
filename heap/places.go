package heap

const (
	perBlock = 256
	nowhere  = -1
)

// places contains for each index the place of its entry in the heap, or nowhere.
type places []block

type block [perBlock]int

// newPlaces returns the places of that many indexes, none of which is in a heap.
func newPlaces(slots int) places {
	p := make(places, (slots+perBlock-1)/perBlock)
	for i := range len(p) * perBlock {
		p.set(i, nowhere)
	}
	return p
}

func (p places) get(i int) int {
	return p[i/perBlock][i%perBlock]
}

func (p places) set(i, place int) {
	p[i/perBlock][i%perBlock] = place
}

func (p places) copy() places {
	c := make(places, len(p))
	for b := range len(p) {
		c[b] = p[b]
	}
	return c
}
