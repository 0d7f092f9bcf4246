package script

import (
	"strconv"

	"seepage/api"
)

// fields returns the fields that a kind of commands uses: U, V, W and T, D for Draws,
// and B for Bounds.
func fields(op api.Op) string {
	switch op {
	case api.OpAdd:
		return "UVWT"
	case api.OpTick:
		return "T"
	case api.OpConnected, api.OpMinimax:
		return "UV"
	case api.OpSize:
		return "U"
	case api.OpCluster:
		return "UW"
	case api.OpClusters:
		return "W"
	case api.OpRandom:
		return "D"
	case api.OpHisto:
		return "WB"
	default:
		return ""
	}
}

// words returns the words of the line of a valid command.
func words(c api.Cmd) []string {
	l := []string{Word(c.Op)}
	unsigned := func(numbers ...uint64) {
		for _, x := range numbers {
			l = append(l, strconv.FormatUint(x, 10))
		}
	}
	signed := func(numbers ...int64) {
		for _, x := range numbers {
			l = append(l, strconv.FormatInt(x, 10))
		}
	}
	for _, field := range fields(c.Op) {
		switch field {
		case 'U':
			unsigned(c.U)
		case 'V':
			unsigned(c.V)
		case 'W':
			signed(c.W)
		case 'T':
			signed(c.T)
		case 'D':
			unsigned(c.Draws...)
		case 'B':
			signed(c.Bounds...)
		}
	}
	return l
}

// command returns the command of the words of a line. If they are not those of a
// command, it may be any command; its line has other words then.
func command(words []string) api.Cmd {
	c := api.Cmd{Op: opOf(words[0])}
	words = words[1:]
	next := func() string {
		if len(words) == 0 {
			return ""
		}
		word := words[0]
		words = words[1:]
		return word
	}
	for _, field := range fields(c.Op) {
		switch field {
		case 'U':
			c.U = unsigned(next())
		case 'V':
			c.V = unsigned(next())
		case 'W':
			c.W = signed(next())
		case 'T':
			c.T = signed(next())
		case 'D':
			for len(words) > 0 {
				c.Draws = append(c.Draws, unsigned(next()))
			}
		case 'B':
			for len(words) > 0 {
				c.Bounds = append(c.Bounds, signed(next()))
			}
		}
	}
	return c
}

// opOf returns the Op with a word, or 0.
func opOf(word string) api.Op {
	for op := api.OpAdd; op <= api.OpStats; op++ {
		if Word(op) == word {
			return op
		}
	}
	return 0
}

// unsigned returns the number of a word, or any one if it has none.
func unsigned(word string) uint64 {
	x, _ := strconv.ParseUint(word, 10, 64)
	return x
}

// signed returns the number of a word, or any one if it has none.
func signed(word string) int64 {
	x, _ := strconv.ParseInt(word, 10, 64)
	return x
}
