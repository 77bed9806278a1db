package calculus_test

import (
	"testing"

	"sequent/api"
	"sequent/calculus"
)

// many has so many times p, and then the others.
func many(n int, others ...api.Formula) []api.Formula {
	var l []api.Formula
	for range n {
		l = append(l, name("p"))
	}
	return append(l, others...)
}

func TestCheckSequent(t *testing.T) {
	for _, text := range []string{
		"=>", "p =>", "=> p", "p => p", "p, p, p => q, q", "p & ~q | 1 -> 0, r => 1, 0, (p -> q) -> p",
	} {
		sameFault(t, text, calculus.CheckSequent(sequent(t, text)), api.Fault{})
	}
	for _, c := range []struct {
		what string
		s    api.Sequent
		want api.Fault
	}{
		{"60 at the left", api.Sequent{Left: many(60)}, api.Fault{}},
		{"61 at the left", api.Sequent{Left: many(61)}, fault(api.ErrMany, 0)},
		{"60 at the right", api.Sequent{Right: many(60)}, api.Fault{}},
		{"61 at the right", api.Sequent{Right: many(61)}, fault(api.ErrMany, 0)},
		{"59 and 1", api.Sequent{Left: many(59), Right: many(1)}, api.Fault{}},
		{"30 and 30", api.Sequent{Left: many(30), Right: many(30)}, api.Fault{}},
		{"30 and 31", api.Sequent{Left: many(30), Right: many(31)}, fault(api.ErrMany, 0)},
		{"31 and 30", api.Sequent{Left: many(31), Right: many(30)}, fault(api.ErrMany, 0)},
		{"60 and 1", api.Sequent{Left: many(60), Right: many(1)}, fault(api.ErrMany, 0)},
		{"very many", api.Sequent{Left: make([]api.Formula, 1<<20), Right: many(1)}, fault(api.ErrMany, 0)},
		{"too many ahead of no formula", api.Sequent{Left: many(0, api.Formula{}), Right: many(60)}, fault(api.ErrMany, 0)},
		{"of most nodes", api.Sequent{Left: []api.Formula{nots(199, name("p"))}, Right: []api.Formula{nots(199, name("q"))}}, api.Fault{}},
	} {
		sameFault(t, c.what, calculus.CheckSequent(c.s), c.want)
	}
}

// notPlain has each of the ways not to be plain, with the code that chapter 2 tells.
func notPlain() map[string]struct {
	f    api.Formula
	code int
} {
	p := name("p")
	return map[string]struct {
		f    api.Formula
		code int
	}{
		"zero":               {api.Formula{}, api.ErrKind},
		"no kind":            {node(10, p), api.ErrKind},
		"kind below":         {node(-1, p), api.ErrKind},
		"box":                {node(api.FBox, p), api.ErrKind},
		"diamond":            {node(api.FDia, p), api.ErrKind},
		"box within":         {node(api.FAnd, p, node(api.FNot, node(api.FBox, p))), api.ErrKind},
		"no kids":            {node(api.FNot), api.ErrSize},
		"a kid too many":     {node(api.FNot, p, p), api.ErrSize},
		"one kid of two":     {node(api.FAnd, p), api.ErrSize},
		"kids of a name":     {api.Formula{Kind: api.FVar, Name: "p", Kids: []api.Formula{p}}, api.ErrSize},
		"kids of true":       {node(api.FTrue, p), api.ErrSize},
		"no name":            {name("P"), api.ErrName},
		"empty name":         {name(""), api.ErrName},
		"long name":          {name("abcdefghi"), api.ErrName},
		"name where none is": {api.Formula{Kind: api.FTrue, Name: "p"}, api.ErrName},
		"no name within":     {node(api.FThen, node(api.FNot, p), name("p1")), api.ErrName},
		"many nodes":         {nots(200, p), api.ErrMany},
		"without end":        {endless(), api.ErrMany},
		"fault behind a box": {node(api.FAnd, node(api.FBox, p), name("")), api.ErrName},
	}
}

func TestCheckSequentOfWhatIsNotPlain(t *testing.T) {
	q := name("q")
	for what, bad := range notPlain() {
		for _, c := range []struct {
			s  api.Sequent
			at int
		}{
			{api.Sequent{Left: []api.Formula{bad.f}}, 0},
			{api.Sequent{Right: []api.Formula{bad.f}}, 0},
			{api.Sequent{Left: many(3, bad.f, q), Right: many(1)}, 3},
			{api.Sequent{Left: many(2), Right: many(0, bad.f, q)}, 2},
			{api.Sequent{Left: many(2), Right: many(3, bad.f)}, 5},
			{api.Sequent{Left: many(59, bad.f)}, 59},
			{api.Sequent{Left: many(58), Right: many(1, bad.f)}, 59},
			{api.Sequent{Left: many(1, bad.f), Right: many(0, node(api.FAnd))}, 1},
			{api.Sequent{Left: many(1, bad.f, name("Q")), Right: many(1)}, 1},
		} {
			sameFault(t, what, calculus.CheckSequent(c.s), fault(bad.code, c.at))
		}
	}
}
