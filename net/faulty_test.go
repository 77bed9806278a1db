package net_test

import (
	"math"
	"slices"
	"strings"

	"sequent/api"
)

// tower has so many leaves: each LTensor or LPar has the next one as its Kid at that place. It has one node less than twice its leaves.
func tower(leaves, kind, place int) api.Linear {
	f := atom("p")
	for range leaves - 1 {
		kids := []api.Linear{opposite("q"), opposite("q")}
		kids[place] = f
		f = node(kind, kids...)
	}
	return f
}

// towerOver is a tower with another formula for its innermost leaf, which is ahead of all other leaves.
func towerOver(f api.Linear, nodes int) api.Linear {
	for range nodes {
		f = tensor(f, atom("p"))
	}
	return f
}

// endless holds itself.
func endless() api.Linear {
	kids := make([]api.Linear, 2)
	kids[0] = node(api.LPar, kids...)
	kids[0].Kids = kids
	kids[1] = atom("p")
	return node(api.LTensor, kids...)
}

// doubled is a formula with 2^n leaves, though only n lists are made.
func doubled(n int) api.Linear {
	f := atom("p")
	for range n {
		f = tensor(f, f)
	}
	return f
}

// faulty is a list and the fault that each call tells of it.
type faulty struct {
	what string
	l    []api.Linear
	want api.Fault
}

func faultyLists() []faulty {
	p, bad := atom("p"), api.Linear{Kind: 4, Name: "P", Not: true, Kids: make([]api.Linear, 5)}
	one := func(f api.Linear) []api.Linear { return []api.Linear{f} }
	all := []faulty{
		{"no list", nil, fault(api.ErrMany, 0)},
		{"no formula", []api.Linear{}, fault(api.ErrMany, 0)},
		{"21 formulas", slices.Repeat(one(p), 21), fault(api.ErrMany, 0)},
		{"21 formulas ahead of all else", slices.Repeat(one(bad), 21), fault(api.ErrMany, 0)},
		{"very many formulas", slices.Repeat(one(p), 1<<20), fault(api.ErrMany, 0)},
		{"a fault in the last one of 20", append(slices.Repeat(one(p), 19), bad), fault(api.ErrKind, 19)},
		{"the zero formula", make([]api.Linear, 1), fault(api.ErrKind, 0)},
		{"kind ahead of size and name", one(bad), fault(api.ErrKind, 0)},
		{"size ahead of name, atom", one(api.Linear{Kind: api.LAtom, Name: "P", Kids: []api.Linear{p}}), fault(api.ErrSize, 0)},
		{"size ahead of name, tensor", one(api.Linear{Kind: api.LTensor, Name: "p", Kids: []api.Linear{p}}), fault(api.ErrSize, 0)},
		{"size ahead of Not, par", one(api.Linear{Kind: api.LPar, Not: true}), fault(api.ErrSize, 0)},
		{"a node ahead of its kids", one(node(api.LPar, bad, bad, bad)), fault(api.ErrSize, 0)},
		{"a name ahead of its kids", one(api.Linear{Kind: api.LTensor, Name: "p", Kids: []api.Linear{bad, bad}}), fault(api.ErrName, 0)},
		{"the first kid ahead of the second", one(tensor(atom("P"), bad)), fault(api.ErrName, 1)},
		{"what is in the first kid ahead of the second", one(par(tensor(p, atom("")), bad)), fault(api.ErrName, 3)},
		{"behind a whole first kid", one(par(tensor(p, par(p, p)), node(api.LTensor))), fault(api.ErrSize, 6)},
		{"the first formula ahead of the second", []api.Linear{tensor(p, opposite("pP")), bad}, fault(api.ErrName, 2)},
		{"nodes are counted through all formulas", []api.Linear{tensor(p, p), p, par(p, bad)}, fault(api.ErrKind, 6)},
		{"one node too many in one formula", one(tower(101, api.LPar, 0)), fault(api.ErrMany, 0)},
		{"one node too many in the second", []api.Linear{tower(100, api.LTensor, 1), par(p, p)}, fault(api.ErrMany, 0)},
		{"one node too many in the third", []api.Linear{tower(100, api.LTensor, 1), p, p}, fault(api.ErrMany, 0)},
		{"a fault at the last node that is looked at", []api.Linear{tower(100, api.LTensor, 1), bad}, fault(api.ErrKind, 199)},
		{"another fault there", []api.Linear{tower(100, api.LPar, 0), atom("pp.")}, fault(api.ErrName, 199)},
		{"a fault behind the last node", []api.Linear{tower(100, api.LTensor, 0), p, bad}, fault(api.ErrMany, 0)},
		{"a fault deep down", one(towerOver(bad, 150)), fault(api.ErrKind, 150)},
		{"a fault too deep down", one(towerOver(bad, 200)), fault(api.ErrMany, 0)},
		{"a fault ahead of too many", one(tensor(atom("p q"), doubled(40))), fault(api.ErrName, 1)},
		{"too many ahead of a fault", one(tensor(doubled(40), bad)), fault(api.ErrMany, 0)},
		{"very deep", one(tower(60000, api.LPar, 1)), fault(api.ErrMany, 0)},
		{"very many kids", one(node(api.LTensor, make([]api.Linear, 1<<20)...)), fault(api.ErrSize, 0)},
		{"endless", one(endless()), fault(api.ErrMany, 0)},
		{"doubled", one(doubled(60)), fault(api.ErrMany, 0)},
	}
	for _, kind := range []int{math.MinInt, -1, 0, 4, 5, 1 << 32, 1<<32 + 1, math.MaxInt} {
		all = append(all, faulty{"no such kind", []api.Linear{p, tensor(api.Linear{Kind: kind, Name: "p"}, p)}, fault(api.ErrKind, 2)})
	}
	return append(append(all, faultyNames()...), faultyKids()...)
}

// faultyNames has names that are none, and names and Not where there may be none.
func faultyNames() []faulty {
	p := atom("p")
	var all []faulty
	for _, s := range []string{"", "P", "pQ", "abcdefghi", "p1", "1", "p q", " p", "p\n", "\x00", "`", "{", "a{", "é", "\xff", "~p", strings.Repeat("a", 1<<20)} {
		short := s[:min(len(s), 9)]
		all = append(all,
			faulty{"no name: " + short, []api.Linear{p, par(p, atom(s))}, fault(api.ErrName, 3)},
			faulty{"the opposite of no name: " + short, []api.Linear{p, tensor(opposite(s), p)}, fault(api.ErrName, 2)},
		)
	}
	for _, kind := range []int{api.LTensor, api.LPar} {
		for _, f := range []api.Linear{{Name: "p"}, {Not: true}, {Name: "P", Not: true}, {Name: "\x00"}} {
			f.Kind, f.Kids = kind, []api.Linear{p, p}
			all = append(all, faulty{"a name or Not where there may be none", []api.Linear{tensor(p, p), par(p, f)}, fault(api.ErrName, 5)})
		}
	}
	return all
}

// faultyKids has each kind with each number of Kids that it may not have.
func faultyKids() []faulty {
	var all []faulty
	for kind, kids := range map[int]int{api.LAtom: 0, api.LTensor: 2, api.LPar: 2} {
		for n := range 5 {
			if n == kids {
				continue
			}
			f := api.Linear{Kind: kind, Kids: slices.Repeat([]api.Linear{atom("p")}, n)}
			if kind == api.LAtom {
				f.Name = "p"
			}
			all = append(all, faulty{"too few or too many kids", []api.Linear{atom("p"), tensor(f, f)}, fault(api.ErrSize, 2)})
		}
	}
	return all
}

// faultyNet is a net and the fault that all calls but Check and Prove tell of it.
type faultyNet struct {
	what  string
	l     []api.Linear
	links [][2]int
	want  api.Fault
}

func faultyNets() []faultyNet {
	four, six := list("*pp P P"), list("*p*pp P P P")
	many := func(n int, link [2]int) [][2]int { return slices.Repeat([][2]int{link}, n) }
	all := []faultyNet{
		{"more links than leaves", four, many(5, [2]int{0, 2}), fault(api.ErrMany, 0)},
		{"more links than leaves ahead of all else", four, many(5, [2]int{-1, 99}), fault(api.ErrMany, 0)},
		{"more links than nodes", four, many(7, [2]int{0, 2}), fault(api.ErrMany, 0)},
		{"more links than the only leaf", list("p"), many(2, [2]int{1, 1}), fault(api.ErrMany, 0)},
		{"very many links", four, many(1<<20, [2]int{0, 2}), fault(api.ErrMany, 0)},
		{"as many links as leaves", four, [][2]int{{0, 2}, {1, 3}, {0, 2}, {1, 3}}, fault(api.ErrForm, 2)},
		{"a first leaf that is not there", four, [][2]int{{0, 2}, {4, 3}}, fault(api.ErrRange, 1)},
		{"a second leaf that is not there", four, [][2]int{{0, 2}, {1, 4}}, fault(api.ErrRange, 1)},
		{"a node that is no leaf", four, [][2]int{{0, 2}, {1, 5}}, fault(api.ErrRange, 1)},
		{"the same that is not there, twice", four, [][2]int{{7, 7}}, fault(api.ErrRange, 0)},
		{"the first link ahead of the second", four, [][2]int{{2, 3}, {-1, 99}}, fault(api.ErrForm, 0)},
		{"a first leaf that is in a link ahead", six, [][2]int{{0, 3}, {1, 4}, {0, 5}}, fault(api.ErrForm, 2)},
		{"a second leaf that is in a link ahead", six, [][2]int{{0, 3}, {1, 4}, {5, 1}}, fault(api.ErrForm, 2)},
		{"the same link twice", six, [][2]int{{0, 3}, {0, 3}}, fault(api.ErrForm, 1)},
		{"the same link turned round", six, [][2]int{{0, 3}, {1, 4}, {3, 0}}, fault(api.ErrForm, 2)},
		{"a leaf twice in one", six, [][2]int{{0, 3}, {2, 2}}, fault(api.ErrForm, 1)},
		{"a leaf twice in the first", list("p"), [][2]int{{0, 0}}, fault(api.ErrForm, 0)},
		{"linked ahead of not there", four, [][2]int{{0, 2}, {0, 9}}, fault(api.ErrForm, 1)},
		{"not there ahead of linked", four, [][2]int{{0, 2}, {9, 0}}, fault(api.ErrRange, 1)},
		{"not there ahead of what does not go together", four, [][2]int{{0, 4}}, fault(api.ErrRange, 0)},
		{"both names", four, [][2]int{{0, 2}, {0, 1}}, fault(api.ErrForm, 1)},
		{"two names", four, [][2]int{{0, 1}}, fault(api.ErrForm, 0)},
		{"two opposites", four, [][2]int{{3, 2}}, fault(api.ErrForm, 0)},
		{"another name", list("p Q q P"), [][2]int{{0, 1}, {2, 3}}, fault(api.ErrForm, 0)},
		{"another name in the second", list("p P q R"), [][2]int{{1, 0}, {2, 3}}, fault(api.ErrForm, 1)},
		{"a longer name", []api.Linear{atom("p"), opposite("pp")}, [][2]int{{0, 1}}, fault(api.ErrForm, 0)},
		{"what does not go together ahead of the next link", six, [][2]int{{0, 3}, {1, 2}, {-5, 0}}, fault(api.ErrForm, 1)},
		{"each link ahead of a leaf in none", six, [][2]int{{1, 3}, {2, 6}}, fault(api.ErrRange, 1)},
		{"no links", four, nil, fault(api.ErrSize, 0)},
		{"no links of one leaf", list("p"), [][2]int{}, fault(api.ErrSize, 0)},
		{"the first leaf is in none", four, [][2]int{{1, 2}}, fault(api.ErrSize, 0)},
		{"the second leaf is in none", four, [][2]int{{0, 2}}, fault(api.ErrSize, 1)},
		{"a leaf in none, by the number of leaves", list("*p*p*pp P P P P"), [][2]int{{0, 6}, {5, 1}, {2, 4}}, fault(api.ErrSize, 3)},
		{"the last leaf is in none", list("p P p"), [][2]int{{1, 0}}, fault(api.ErrSize, 2)},
	}
	for _, leaf := range []int{-1, 4, 7, 64, 1 << 32, math.MaxInt, math.MinInt} {
		all = append(all,
			faultyNet{"no such first leaf", four, [][2]int{{1, 3}, {leaf, 2}}, fault(api.ErrRange, 1)},
			faultyNet{"no such second leaf", four, [][2]int{{1, 3}, {2, leaf}}, fault(api.ErrRange, 1)},
			faultyNet{"neither", four, [][2]int{{leaf, leaf}}, fault(api.ErrRange, 0)},
		)
	}
	return all
}

// falseNet is a net without faults that is not correct.
type falseNet struct {
	l     []api.Linear
	links [][2]int
}

func falseNets() []falseNet {
	return []falseNet{
		{list("*pP"), [][2]int{{0, 1}}},
		{list("p P q Q"), [][2]int{{0, 1}, {2, 3}}},
		{list("+pP +qQ"), [][2]int{{0, 1}, {2, 3}}},
		{list("*pp +PP *pP"), [][2]int{{0, 2}, {1, 3}, {4, 5}}},
		{list("*pp *PP"), [][2]int{{0, 2}, {1, 3}}},
		{list("+pp P P"), [][2]int{{0, 2}, {1, 3}}},
		{list("+p+pP P"), [][2]int{{0, 2}, {1, 3}}},
		{list("+*pPq Q"), [][2]int{{0, 1}, {2, 3}}},
		{list("*+ppP P"), [][2]int{{0, 2}, {1, 3}}},
	}
}
