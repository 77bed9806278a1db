package formula_test

import (
	"testing"

	"sequent/api"
	"sequent/formula"
)

func TestPut(t *testing.T) {
	for _, c := range []struct{ f, name, g, want string }{
		{"p", "p", "q -> r", "q -> r"},
		{"p", "q", "r", "p"},
		{"1 | 0", "p", "q", "1 | 0"},
		{"p & q -> ~p", "p", "r | q", "(r | q) & q -> ~(r | q)"},
		{"p & q", "p", "q", "q & q"},
		{"p & q", "p", "p", "p & q"},
		{"p -> q", "p", "p & p", "p & p -> q"},
		{"[]p -> <>q", "q", "[]q", "[]p -> <>[]q"},
		{"p & pp", "p", "0", "0 & pp"},
		{"abcdefgh | p", "abcdefgh", "1", "1 | p"},
	} {
		got, e := formula.Put(parse(t, c.f), c.name, parse(t, c.g))
		what := "Put of " + c.g + " for " + c.name + " into " + c.f
		sameFault(t, what, e, api.Fault{})
		sameFormula(t, what, got, parse(t, c.want))
	}
}

func TestPutFaults(t *testing.T) {
	p, bad := name("p"), node(api.FNot, name("P"))
	tooMuch := node(api.FAnd, p, p)
	for _, c := range []struct {
		what string
		f    api.Formula
		name string
		g    api.Formula
		want api.Fault
	}{
		{"f ahead of g", bad, "p", api.Formula{}, fault(api.ErrName, 1)},
		{"g ahead of no name", p, "", node(api.FNot, api.Formula{}), fault(api.ErrKind, 1)},
		{"no name", p, "", p, fault(api.ErrName, 0)},
		{"no name, capital", p, "P", p, fault(api.ErrName, 0)},
		{"no name, long", p, "abcdefghi", p, fault(api.ErrName, 0)},
		{"no name, digit", p, "p1", p, fault(api.ErrName, 0)},
		{"no name ahead of too much", tooMuch, "p ", nots(150), fault(api.ErrName, 0)},
		{"too much", tooMuch, "p", nots(100), fault(api.ErrMuch, 0)},
		{"one too much", nots(1), "p", nots(199), fault(api.ErrMuch, 0)},
		{"one too much, twice", tooMuch, "p", nots(99), fault(api.ErrMuch, 0)},
		{"as much as can be", parse(t, wide), "p", nots(199), fault(api.ErrMuch, 0)},
	} {
		got, e := formula.Put(c.f, c.name, c.g)
		sameFault(t, c.what, e, c.want)
		if !isZero(got) {
			t.Errorf("%s: a formula is answered beside the fault", c.what)
		}
	}
}

// wide has p at 64 places.
const wide = "(" + wide32 + ") & (" + wide32 + ")"
const wide32 = "(" + wide16 + ") & (" + wide16 + ")"
const wide16 = "p&p&p&p&p&p&p&p & (p&p&p&p&p&p&p&p)"

func TestPutOfMostNodes(t *testing.T) {
	p := name("p")
	got, e := formula.Put(nots(1), "p", nots(198))
	sameFault(t, "just kept", e, api.Fault{})
	sameFormula(t, "just kept", got, nots(199))

	f := node(api.FNot, node(api.FAnd, p, p))
	got, e = formula.Put(f, "p", nots(98))
	sameFault(t, "just kept, twice", e, api.Fault{})
	sameFormula(t, "just kept, twice", got, node(api.FNot, node(api.FAnd, nots(98), nots(98))))

	got, e = formula.Put(nots(199), "q", nots(199))
	sameFault(t, "where it is not", e, api.Fault{})
	sameFormula(t, "where it is not", got, nots(199))

	got, e = formula.Put(nots(199), "p", name("q"))
	sameFault(t, "one node for one", e, api.Fault{})
	sameFault(t, "one node for one", formula.Check(got), api.Fault{})
}
