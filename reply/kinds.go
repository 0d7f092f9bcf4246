package reply

import "seepage/api"

// How many entries a reply without an error has.
const (
	anyNumber = iota
	one
	oneIfYes
)

// kind is what is known of the replies to a kind of commands.
type kind struct {
	word string
	// ids and nums are how many of them an entry has.
	ids, nums int
	number    int
	// answers says that Yes may be true.
	answers bool
}

// kinds contains the kinds by their Op; 0 is that of the reply to bytes that are no command.
var kinds = [16]kind{
	{word: "-"},
	{word: "add", nums: 1, number: one},
	{word: "tick", nums: 1, number: one},
	{word: "connected", answers: true},
	{word: "size", nums: 1, number: one},
	{word: "count", nums: 3, number: one},
	{word: "cluster", ids: 1, nums: 1, number: one},
	{word: "clusters", ids: 1, nums: 1},
	{word: "minimax", nums: 1, number: oneIfYes, answers: true},
	{word: "merges", ids: 2, nums: 1},
	{word: "sweep", nums: 4},
	{word: "random", nums: 3},
	{word: "histo", nums: 1},
	{word: "bridges", ids: 1},
	{word: "cores", ids: 1, nums: 1},
	{word: "stats", nums: 5, number: one},
}

// opOf returns the Op with a word.
func opOf(word string) (api.Op, bool) {
	for op, k := range kinds {
		if k.word == word {
			return api.Op(op), true
		}
	}
	return 0, false
}

// entries returns how many entries the numbers of a reply are, if they are those of
// whole entries.
func (k kind) entries(r api.Reply) int {
	if k.ids > 0 {
		return len(r.IDs) / k.ids
	}
	if k.nums > 0 {
		return len(r.Nums) / k.nums
	}
	return 0
}

// fits reports whether one of the cases in which replies are valid applies to a reply.
func fits(r api.Reply) bool {
	bare := !r.Yes && len(r.IDs) == 0 && len(r.Nums) == 0
	switch {
	case r.Op == 0:
		return r.Err == api.ErrForm && bare
	case r.Op < 0 || int(r.Op) >= len(kinds):
		return false
	case r.Err != api.OK:
		return r.Err >= api.ErrNil && r.Err <= api.ErrState && bare
	}
	k := kinds[r.Op]
	n := k.entries(r)
	whole := len(r.IDs) == n*k.ids && len(r.Nums) == n*k.nums
	return whole && k.allows(n, r.Yes) && (k.answers || !r.Yes)
}

// allows reports whether a reply can have so many entries.
func (k kind) allows(n int, yes bool) bool {
	switch k.number {
	case one:
		return n == 1
	case oneIfYes:
		return n == 1 && yes || n == 0 && !yes
	default:
		return true
	}
}
