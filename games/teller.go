package games

import (
	"cmp"
	"slices"

	"sequent/api"
	"sequent/set"
)

// teller finds what is true on the first side of a game and false on the second.
type teller struct {
	*game
	found map[position]*saying
}

func newTeller(g *game) *teller {
	return &teller{game: g, found: map[position]*saying{}}
}

// apart is true of what was chosen on the first side, and false of what was chosen on the second. The one who answers can't win from p on.
func (t *teller) apart(p position) *saying {
	if t.found[p] == nil {
		t.found[p] = t.newApart(p)
	}
	return t.found[p]
}

// newApart takes as few rounds as there can be: so what has to be told of is seldom far away, and nothing is chosen again.
func (t *teller) newApart(p position) *saying {
	if a, found := t.difference(p); found {
		return ofAtom(a)
	}
	rounds := 1
	for t.holds(p, rounds) {
		rounds++
	}
	var all []*saying
	for _, c := range t.choices() {
		if t.isBeaten(p, c, rounds) {
			all = append(all, t.byChoice(p, c))
		}
	}
	return slices.MinFunc(all, func(s, other *saying) int { return cmp.Compare(s.nodes, other.nodes) })
}

// byChoice says that there is a thing like c on the first side, or, if c is of the second, that all things of the first are unlike it.
func (t *teller) byChoice(p position, c choice) *saying {
	kind := api.ESome
	if c.side == 1 {
		kind = api.EAll
	}
	return ofThings(kind, p.many, t.enough(t.answers(p, c), 1-c.side))
}

// telling is a saying with the answers that it tells of, by their numbers, to be wrong.
type telling struct {
	*saying
	told set.Set
}

// enough are sayings that tell of all answers, by what was chosen on their side, that they are wrong: often one of them tells it of many.
func (t *teller) enough(answers []position, side int) []*saying {
	var all []telling
	for _, p := range answers {
		s := t.apart(p)
		all = append(all, telling{s, t.told(s, answers, side)})
	}
	var taken []*saying
	for left := set.Below(len(answers)); left != 0; {
		best := slices.MaxFunc(all, func(s, other telling) int {
			return cmp.Or(cmp.Compare((s.told&left).Len(), (other.told&left).Len()), cmp.Compare(other.nodes, s.nodes))
		})
		taken = append(taken, best.saying)
		left = left.Without(best.told)
	}
	return taken
}

// told are the answers of the side at which s is not what it is on the other one: true on the first, and false on the second.
func (t *teller) told(s *saying, answers []position, side int) set.Set {
	var l set.Set
	for number, p := range answers {
		if t.sides[side].isTrue(s, p.things(side)) == (side == 0) {
			l = l.With(number)
		}
	}
	return l
}
