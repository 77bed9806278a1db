package games

import (
	"slices"

	"sequent/api"
	"sequent/set"
)

// What is known of a goal; of what is not known it is 0.
const (
	canHold = 1 + iota
	cannotHold
)

// goal is to hold out from a position on for so many rounds.
type goal struct {
	position
	rounds int
}

// game is played on two boards, which have the same predicates.
type game struct {
	sides     [2]board
	preds     []api.Pred
	placeless set.Set // those predicates that have no place
	known     map[goal]int
}

func newGame(a, b api.Structure) *game {
	g := &game{sides: [2]board{newBoard(a), newBoard(b)}, preds: a.Preds, known: map[goal]int{}}
	for number, p := range a.Preds {
		if p.Arity == 0 {
			g.placeless = g.placeless.With(number)
		}
	}
	return g
}

// choices are all that there are in a round. Those of the second side come first, as the chapter's example has it.
func (g *game) choices() []choice {
	var l []choice
	for _, side := range [2]int{1, 0} {
		for thing := range g.sides[side].things {
			l = append(l, choice{side, thing})
		}
	}
	return l
}

// answers are the positions behind all answers to c.
func (g *game) answers(p position, c choice) []position {
	l := make([]position, g.sides[1-c.side].things)
	for other := range l {
		l[other] = p.with(c, other)
	}
	return l
}

// holds tells whether the one who answers can win, when so many rounds are left. What was chosen ahead of p's last round fits.
func (g *game) holds(p position, rounds int) bool {
	if _, found := g.difference(p); found || rounds == 0 {
		return !found
	}
	at := goal{p.sorted(), rounds}
	if g.known[at] == 0 {
		g.known[at] = canHold
		if slices.ContainsFunc(g.choices(), func(c choice) bool { return g.isBeaten(p, c, rounds) }) {
			g.known[at] = cannotHold
		}
	}
	return g.known[at] == canHold
}

// isBeaten tells whether no answer to c, the first choice of so many rounds, is good.
func (g *game) isBeaten(p position, c choice, rounds int) bool {
	isGood := func(next position) bool { return g.holds(next, rounds-1) }
	return !slices.ContainsFunc(g.answers(p, c), isGood)
}

// difference tells what is true on the first side and false on the second. It is found just if p's last round does not fit to those ahead. It goes by this round alone where it can: that makes for short expressions.
func (g *game) difference(p position) (atom, bool) {
	if p.many == 0 {
		return g.inFacts(p, 0, 0, g.placeless)
	}
	last, all := p.many-1, set.Below(len(g.preds))
	for round := last; round >= 0; round-- {
		if a, found := inSame(p, round, last); found {
			return a, true
		}
		if a, found := g.inFacts(p, round, last, all); found {
			return a, true
		}
		if a, found := g.inFacts(p, last, round, all); found {
			return a, true
		}
	}
	return atom{}, false
}

// inSame looks at whether the rounds x and y have one thing.
func inSame(p position, x, y int) (atom, bool) {
	u, v := p.pairs[x], p.pairs[y]
	here, there := u[0] == v[0], u[1] == v[1]
	return atom{kind: api.ESame, places: 2, x: x, y: y, not: !here}, here != there
}

// inFacts looks at which of these predicates hold of the rounds x and y.
func (g *game) inFacts(p position, x, y int, of set.Set) (atom, bool) {
	u, v := p.pairs[x], p.pairs[y]
	here, there := g.sides[0].facts[u[0]][v[0]], g.sides[1].facts[u[1]][v[1]]
	differing := (here ^ there) & of
	if differing == 0 {
		return atom{}, false
	}
	number := differing.Lowest()
	return atom{kind: api.EPred, number: number, places: g.preds[number].Arity, x: x, y: y, not: !here.Has(number)}, true
}
