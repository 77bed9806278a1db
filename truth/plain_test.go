package truth_test

import (
	"testing"

	"sequent/api"
)

// notPlain are formulas, with the fault that each call tells of them first.
func notPlain() []struct {
	what string
	f    api.Formula
	want api.Fault
} {
	p := name("p")
	box, dia := node(api.FBox, p), node(api.FDia, p)
	return []struct {
		what string
		f    api.Formula
		want api.Fault
	}{
		{"zero formula", api.Formula{}, fault(api.ErrKind, 0)},
		{"no such kind", node(api.FNot, node(10)), fault(api.ErrKind, 1)},
		{"kind below zero", node(api.FAnd, p, node(-1<<63)), fault(api.ErrKind, 2)},
		{"and of one", node(api.FNot, node(api.FAnd, p)), fault(api.ErrSize, 1)},
		{"name with a kid", api.Formula{Kind: api.FVar, Name: "p", Kids: []api.Formula{p}}, fault(api.ErrSize, 0)},
		{"no name", node(api.FOr, p, name("P")), fault(api.ErrName, 2)},
		{"long name", name("abcdefghi"), fault(api.ErrName, 0)},
		{"name of what has none", api.Formula{Kind: api.FTrue, Name: "p"}, fault(api.ErrName, 0)},
		{"one node too many", nots(api.MaxNodes, p), fault(api.ErrMany, 0)},
		{"endless", endless(), fault(api.ErrMany, 0)},
		{"box", box, fault(api.ErrKind, 0)},
		{"diamond", dia, fault(api.ErrKind, 0)},
		{"box inside", node(api.FNot, box), fault(api.ErrKind, 1)},
		{"box at the right", node(api.FAnd, p, box), fault(api.ErrKind, 2)},
		{"diamond behind a whole kid", node(api.FThen, node(api.FOr, p, node(api.FNot, p)), dia), fault(api.ErrKind, 5)},
		{"box ahead of diamond", node(api.FAnd, box, dia), fault(api.ErrKind, 1)},
		{"diamond ahead of box", node(api.FAnd, node(api.FNot, dia), box), fault(api.ErrKind, 2)},
		{"diamond in a box", node(api.FBox, dia), fault(api.ErrKind, 0)},
		{"box at the last node but one", nots(api.MaxNodes-2, box), fault(api.ErrKind, api.MaxNodes-2)},
		{"fault of Check behind a box", node(api.FAnd, box, name("")), fault(api.ErrName, 3)},
		{"fault of Check in a diamond", node(api.FDia, node(api.FNot)), fault(api.ErrSize, 1)},
		{"too many nodes behind a box", node(api.FAnd, box, nots(api.MaxNodes, p)), fault(api.ErrMany, 0)},
	}
}

// TestFormulasFaultsComeFirst hands over lists that are wrong, too: of these nothing is to be told.
func TestFormulasFaultsComeFirst(t *testing.T) {
	lists := [][]string{nil, {"p"}, {"P"}, {"q", "q"}, {"a", "b", "c", "d", "e"}, make([]string, api.MaxList+1)}
	for _, c := range notPlain() {
		_, e := rows(t, c.what, c.f)
		sameFault(t, "Rows of "+c.what, e, c.want)
		_, _, e = valid(t, c.what, c.f)
		sameFault(t, "Valid of "+c.what, e, c.want)
		for _, l := range lists {
			_, e = value(t, c.what, c.f, l)
			sameFault(t, "Value of "+c.what, e, c.want)
			_, e = made(t, c.what, c.f, l)
			sameFault(t, "Made of "+c.what, e, c.want)
		}
	}
}

func TestBoxGoesAheadOfTooManyNames(t *testing.T) {
	f := node(api.FAnd, parse(t, "a & b & c & d & e & f & g"), parse(t, "[]p"))
	_, e := rows(t, "box", f)
	sameFault(t, "Rows", e, fault(api.ErrKind, 14))
	_, _, e = valid(t, "box", f)
	sameFault(t, "Valid", e, fault(api.ErrKind, 14))
}
