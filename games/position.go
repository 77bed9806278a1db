package games

import (
	"cmp"
	"slices"
)

// choice is a thing of a side.
type choice struct {
	side, thing int
}

// pair has the things of a round: one of each side.
type pair [2]int

// position is what was chosen so far, round by round.
type position struct {
	many  int
	pairs [mostRounds]pair
}

// with has a round more: c, and the other side's thing.
func (p position) with(c choice, other int) position {
	next := &p.pairs[p.many]
	next[c.side], next[1-c.side] = c.thing, other
	p.many++
	return p
}

// sorted is a position with the same rounds, in an order of their own: how the game goes on does not hang on theirs. Where all fits, rounds with the same thing of the first side are the same.
func (p position) sorted() position {
	slices.SortFunc(p.pairs[:p.many], func(u, v pair) int { return cmp.Compare(u[0], v[0]) })
	return p
}

// things are what was chosen of a side.
func (p position) things(side int) [mostRounds]int {
	var l [mostRounds]int
	for round, u := range p.pairs {
		l[round] = u[side]
	}
	return l
}
