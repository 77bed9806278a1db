package net_test

import (
	"reflect"
	"slices"
	"testing"

	"sequent/api"
	"sequent/net"
)

func TestCheckSaysNothingOfFormulas(t *testing.T) {
	p := atom("p")
	for _, l := range [][]api.Linear{
		{p}, {opposite("p")}, {atom("a")}, {atom("z")}, {atom("abcdefgh")}, {opposite("abcdefgh")},
		{tensor(p, p)}, {par(p, p)}, {par(tensor(p, opposite("q")), p), p},
		{{Kind: api.LAtom, Name: "p", Kids: []api.Linear{}}},
		{{Kind: api.LAtom, Name: "p", Kids: make([]api.Linear, 3)[:0]}},
		slices.Repeat([]api.Linear{p}, 20),
		slices.Repeat([]api.Linear{tower(5, api.LPar, 1)}, 20),
		{tower(100, api.LPar, 0)},
		{tower(100, api.LTensor, 1), p},
		{tower(51, api.LTensor, 0), tower(50, api.LPar, 0)},
		append(slices.Repeat([]api.Linear{p}, 19), tower(91, api.LPar, 1)),
		append([]api.Linear{tower(100, api.LPar, 1), opposite("p")}, api.Linear{})[:2],
	} {
		if e := net.Check(l); e != (api.Fault{}) {
			t.Errorf("%v: %v", toldAll(l), e)
		}
	}
}

// TestJustMaxNodes holds the towers against the bound, so that the lists above and the faulty ones stand on both sides of it.
func TestJustMaxNodes(t *testing.T) {
	for _, rest := range []string{"p", "p P", "+pp"} {
		l := append([]api.Linear{tower(100, api.LPar, 0)}, list(rest)...)
		want := api.Fault{}
		if len(nodesOf(l...)) > api.MaxNodes {
			want = fault(api.ErrMany, 0)
		}
		if e := net.Check(l); e != want {
			t.Errorf("%d nodes: %v, want %v", len(nodesOf(l...)), e, want)
		}
	}
}

func TestCheckFaults(t *testing.T) {
	for _, c := range faultyLists() {
		if e := net.Check(c.l); e != c.want {
			t.Errorf("%s: %v, want %v", c.what, e, c.want)
		}
	}
}

// refused looks that all calls that take a net tell just this fault, and nothing beside it.
func refused(t *testing.T, what string, l []api.Linear, links [][2]int, want api.Fault) {
	t.Helper()
	if is, e := net.Correct(l, links); e != want || is {
		t.Errorf("%s: Correct: %v, %v, want %v", what, is, e, want)
	}
	refusedAsCorrect(t, what, l, links, want)
}

// refusedAsCorrect: likewise, by the calls that take correct nets alone.
func refusedAsCorrect(t *testing.T, what string, l []api.Linear, links [][2]int, want api.Fault) {
	t.Helper()
	if tree, e := net.Sequential(l, links); e != want || !reflect.DeepEqual(tree, api.Tree{}) {
		t.Errorf("%s: Sequential: %v, %v, want %v", what, tree, e, want)
	}
	refusedJoin(t, what, l, links, list("p P"), [][2]int{{0, 1}}, want)
	refusedJoin(t, what, l, links, nil, [][2]int{{5, 5}}, want)
	refusedJoin(t, what, l, links, list("p P"), nil, want)
	refusedJoin(t, what, l, links, list("*pP"), [][2]int{{0, 1}}, want)
	refusedJoin(t, what, list("p P"), [][2]int{{1, 0}}, l, links, want)
}

func refusedJoin(t *testing.T, what string, l []api.Linear, a [][2]int, m []api.Linear, b [][2]int, want api.Fault) {
	t.Helper()
	if links, e := net.Join(l, a, m, b); e != want || len(links) != 0 {
		t.Errorf("%s: Join: %v, %v, want %v", what, links, e, want)
	}
}

// TestAllTellWhatCheckSays: ahead of what is wrong with the links.
func TestAllTellWhatCheckSays(t *testing.T) {
	for _, c := range faultyLists() {
		if links, is, e := net.Prove(c.l); e != c.want || is || len(links) != 0 {
			t.Errorf("%s: Prove: %v, %v, %v, want %v", c.what, links, is, e, c.want)
		}
		for _, links := range [][][2]int{nil, {{0, 1}}, {{-1, 99}}, slices.Repeat([][2]int{{0, 0}}, 1000)} {
			refused(t, c.what, c.l, links, c.want)
		}
	}
}
