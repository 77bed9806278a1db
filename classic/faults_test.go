package classic_test

import (
	"slices"
	"testing"

	"sequent/api"
	"sequent/calculus"
	"sequent/classic"
)

// refused looks that Prove tells just this fault, as CheckSequent does.
func refused(t *testing.T, what string, s api.Sequent, want api.Fault) {
	t.Helper()
	p, counter, valid, f := classic.Prove(s)
	if f != want || calculus.CheckSequent(s) != want {
		t.Errorf("%s: fault %v, want %v", what, f, want)
	}
	isNothing(t, what, p, counter, valid)
}

// endless holds itself.
func endless() api.Formula {
	kids := make([]api.Formula, 1)
	kids[0] = node(api.FNot, kids...)
	kids[0].Kids = kids
	return kids[0]
}

func TestNotPlain(t *testing.T) {
	p := name("p")
	for _, c := range []struct {
		what string
		f    api.Formula
		code int
	}{
		{"zero", api.Formula{}, api.ErrKind},
		{"no kind", node(10), api.ErrKind},
		{"below zero", node(-1), api.ErrKind},
		{"box", node(api.FBox, p), api.ErrKind},
		{"diamond", node(api.FDia, p), api.ErrKind},
		{"box within", node(api.FNot, node(api.FAnd, p, node(api.FBox, p))), api.ErrKind},
		{"no Kids", node(api.FNot), api.ErrSize},
		{"one Kid", node(api.FAnd, p), api.ErrSize},
		{"three Kids", node(api.FOr, p, p, p), api.ErrSize},
		{"a name's Kid", api.Formula{Kind: api.FVar, Name: "p", Kids: []api.Formula{p}}, api.ErrSize},
		{"no name", name(""), api.ErrName},
		{"a long name", name("abcdefghi"), api.ErrName},
		{"a capital", name("P"), api.ErrName},
		{"a name of true", api.Formula{Kind: api.FTrue, Name: "p"}, api.ErrName},
		{"too many nodes", nots(api.MaxNodes, p), api.ErrMany},
		{"without end", endless(), api.ErrMany},
	} {
		refused(t, c.what, api.Sequent{Left: []api.Formula{c.f}}, fault(c.code, 0))
		refused(t, c.what, api.Sequent{Right: []api.Formula{c.f}}, fault(c.code, 0))
		refused(t, c.what, api.Sequent{Left: []api.Formula{p, c.f}, Right: []api.Formula{p}}, fault(c.code, 1))
		refused(t, c.what, api.Sequent{Left: []api.Formula{p, p}, Right: []api.Formula{p, c.f}}, fault(c.code, 3))
		refused(t, c.what, api.Sequent{Left: []api.Formula{p, c.f}, Right: []api.Formula{{}}}, fault(c.code, 1))
		refused(t, c.what, api.Sequent{Left: slices.Repeat([]api.Formula{p}, 59), Right: []api.Formula{c.f}}, fault(c.code, 59))
		refused(t, c.what, api.Sequent{Left: slices.Repeat([]api.Formula{c.f}, 31), Right: slices.Repeat([]api.Formula{p}, 30)}, fault(api.ErrMany, 0))
	}
}

func TestMostFormulas(t *testing.T) {
	many := func(n int) []api.Formula { return slices.Repeat([]api.Formula{name("p")}, n) }
	for _, left := range []int{0, 1, 30, 59, 60} {
		_, _, valid, much := proved(t, api.Sequent{Left: many(left), Right: many(60 - left)})
		if valid != (left > 0 && left < 60) || much {
			t.Errorf("%d and %d times p: %v, %v", left, 60-left, valid, much)
		}
		refused(t, "61 formulas", api.Sequent{Left: many(left), Right: many(61 - left)}, fault(api.ErrMany, 0))
	}
	refused(t, "very many", api.Sequent{Left: make([]api.Formula, 1<<20)}, fault(api.ErrMany, 0))
}
