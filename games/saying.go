package games

import (
	"strings"

	"sequent/api"
)

// atom says of what was chosen in the rounds x and y that it is the same, or that the predicate of a number, of so many places, holds of it; or, with not, the opposite.
type atom struct {
	kind, number, places, x, y int
	not                        bool
}

// saying is an atom, or says that for some thing of its round all of kids are true, or for all things some of kids. (Its kind is then ESome or EAll.)
type saying struct {
	atom
	round int
	kids  []*saying
	nodes int
}

func ofAtom(a atom) *saying {
	s := &saying{atom: a, nodes: 1 + a.places}
	if a.not {
		s.nodes++
	}
	return s
}

func ofThings(kind, round int, kids []*saying) *saying {
	s := &saying{atom: atom{kind: kind}, round: round, kids: kids, nodes: len(kids)}
	for _, k := range kids {
		s.nodes += k.nodes
	}
	return s
}

// expr writes s with the names of these predicates.
func (s *saying) expr(preds []api.Pred) api.Expr {
	if len(s.kids) == 0 {
		return s.atom.expr(preds)
	}
	between := api.EAnd
	if s.kind == api.EAll {
		between = api.EOr
	}
	inner := s.kids[0].expr(preds)
	for _, k := range s.kids[1:] {
		inner = api.Expr{Kind: between, Kids: []api.Expr{inner, k.expr(preds)}}
	}
	return api.Expr{Kind: s.kind, Name: variable(s.round), Kids: []api.Expr{inner}}
}

func (a atom) expr(preds []api.Pred) api.Expr {
	e := api.Expr{Kind: a.kind}
	if a.kind == api.EPred {
		e.Name = strings.Clone(preds[a.number].Name)
	}
	for _, round := range []int{a.x, a.y}[:a.places] {
		e.Words = append(e.Words, api.Word{Name: variable(round)})
	}
	if a.not {
		return api.Expr{Kind: api.ENot, Kids: []api.Expr{e}}
	}
	return e
}

// variable is what a round's thing is called.
func variable(round int) string { return string(rune('a' + round)) }
