package games

import (
	"sequent/api"
	"sequent/set"
)

// board is a structure as the players see it: of any two things the numbers of the predicates that hold of them, in this order. Of these, those of one place look at the first thing, those of no place at none.
type board struct {
	things int
	facts  [mostThings][mostThings]set.Set
}

func newBoard(s api.Structure) board {
	b := board{things: s.N}
	for u := range s.N {
		for v := range s.N {
			b.facts[u][v] = factsOf(s, u, v)
		}
	}
	return b
}

func factsOf(s api.Structure, u, v int) set.Set {
	var facts set.Set
	for number, p := range s.Preds {
		if p.Bits[placeOf(p.Arity, s.N, u, v)] {
			facts = facts.With(number)
		}
	}
	return facts
}

func placeOf(arity, things, u, v int) int {
	switch arity {
	case 0:
		return 0
	case 1:
		return u
	}
	return u + v*things
}

// isTrue tells whether s is true, where these things were chosen ahead of it.
func (b *board) isTrue(s *saying, things [mostRounds]int) bool {
	switch s.kind {
	case api.ESame:
		return (things[s.x] == things[s.y]) != s.not
	case api.EPred:
		return b.facts[things[s.x]][things[s.y]].Has(s.number) != s.not
	}
	isAll := s.kind == api.EAll
	for thing := range b.things {
		things[s.round] = thing
		if b.areTrue(s.kids, !isAll, things) != isAll {
			return !isAll
		}
	}
	return isAll
}

// areTrue tells whether all of l are true, or else whether some is.
func (b *board) areTrue(l []*saying, all bool, things [mostRounds]int) bool {
	for _, s := range l {
		if b.isTrue(s, things) != all {
			return !all
		}
	}
	return all
}
