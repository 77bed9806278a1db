package net_test

import (
	"math/rand"
	"testing"

	"sequent/api"
	"sequent/net"
)

func TestCorrectFaults(t *testing.T) {
	for _, c := range faultyNets() {
		refused(t, c.what, c.l, c.links, c.want)
	}
}

// TestFalseNets: Correct tells no fault of them, but those do that take correct nets alone.
func TestFalseNets(t *testing.T) {
	for _, c := range falseNets() {
		if trial(c.l, c.links) {
			t.Errorf("%v: the trial finds nothing", toldAll(c.l))
		}
		correct(t, c.l, c.links, false)
		refusedAsCorrect(t, "not correct", c.l, c.links, fault(api.ErrFalse, 0))
	}
}

func TestCorrectNets(t *testing.T) {
	for _, c := range []struct {
		l     string
		links [][2]int
	}{
		{"p P", [][2]int{{0, 1}}},
		{"P p", [][2]int{{1, 0}}},
		{"+pP", [][2]int{{0, 1}}},
		{"*pp P P", [][2]int{{0, 3}, {2, 1}}},
		{"*pp +PP", [][2]int{{0, 2}, {1, 3}}},
		{"*pp +PP", [][2]int{{0, 3}, {1, 2}}},
		{"++PP*pp", [][2]int{{0, 2}, {1, 3}}},
		{"*+pP+qQ", [][2]int{{0, 1}, {2, 3}}},
		{"*+pPq *QR r", [][2]int{{0, 1}, {2, 3}, {4, 5}}},
		{"P *pQ *qR *rS s", [][2]int{{0, 1}, {2, 3}, {4, 5}, {6, 7}}},
	} {
		if !looked(t, list(c.l), c.links) {
			t.Errorf("%s with %v: it is not correct", c.l, c.links)
		}
	}
}

// looked holds Correct and Sequential against the trial of all ways, and this against the search for a proof with just these links.
func looked(t *testing.T, l []api.Linear, links [][2]int) (is bool) {
	t.Helper()
	is = trial(l, links)
	if is != hasProof(strands(l, links)) {
		t.Fatalf("%v with %v: the reckonings differ", toldAll(l), links)
	}
	correct(t, l, links, is)
	sequential(t, l, links, is)
	return is
}

// TestAllSmallNets goes through all lists with two and four leaves, and some with six, with all links.
func TestAllSmallNets(t *testing.T) {
	chance := rand.New(rand.NewSource(1))
	count := map[bool]int{}
	for _, leaves := range []int{2, 4, 6} {
		for _, l := range smallLists(leaves) {
			if leaves == 6 && chance.Intn(8) > 0 {
				continue
			}
			for _, links := range allLinks(l) {
				count[looked(t, l, links)]++
			}
		}
	}
	if count[true] < 1000 || count[false] < 1000 {
		t.Errorf("few nets came: %v", count)
	}
}

// TestAnyNets has larger ones, with up to 11 LPar, correct ones and such with crossed links.
func TestAnyNets(t *testing.T) {
	chance := rand.New(rand.NewSource(2))
	count := map[bool]int{}
	for range 1500 {
		n := 1 + chance.Intn(11)
		l, links := grown(chance, n, 1+chance.Intn(n+1), []string{"p", "q", "letters"}[:1+chance.Intn(3)]...)
		if !looked(t, l, mixed(chance, links)) {
			t.Fatalf("%v with %v: a proof's net is not correct", toldAll(l), links)
		}
		count[looked(t, l, crossed(chance, l, links, 1+chance.Intn(4)))]++
	}
	if count[true] < 100 || count[false] < 100 {
		t.Errorf("few nets came: %v", count)
	}
}

// TestKindsExchanged: a net with LTensor for LPar and the other way round at some node, so that joints are too few or too many, or just as many at other places.
func TestKindsExchanged(t *testing.T) {
	chance := rand.New(rand.NewSource(3))
	count := map[bool]int{}
	for range 1500 {
		n := 2 + chance.Intn(6)
		l, links := grown(chance, n, 1+chance.Intn(n), "p")
		nodes := len(nodesOf(l...))
		for range 1 + chance.Intn(2) {
			l = exchangedAt(l, chance.Intn(nodes))
		}
		count[looked(t, l, links)]++
	}
	if count[true] < 50 || count[false] < 50 {
		t.Errorf("few nets came: %v", count)
	}
}

// exchangedAt has another kind at the node with that number, if it is no leaf.
func exchangedAt(l []api.Linear, number int) []api.Linear {
	var out []api.Linear
	for _, f := range l {
		g := api.Linear{Kind: f.Kind, Name: f.Name, Not: f.Not}
		if number == 0 && f.Kind != api.LAtom {
			g.Kind = api.LTensor + api.LPar - f.Kind
		}
		g.Kids = exchangedAt(f.Kids, number-1)
		number -= len(nodesOf(f))
		out = append(out, g)
	}
	return out
}

// TestAnyFaults holds what is told of marred nets against the chapter's order, word by word.
func TestAnyFaults(t *testing.T) {
	chance := rand.New(rand.NewSource(4))
	count := map[api.Fault]int{}
	for range 20000 {
		n := 1 + chance.Intn(3)
		l, links := grown(chance, n, 1+chance.Intn(n+1), "p", "q")
		links = mixed(chance, links)
		for range chance.Intn(4) {
			links = marred(chance, links)
		}
		want := faultOf(l, links)
		count[want]++
		if want != (api.Fault{}) {
			refused(t, "marred", l, links, want)
			continue
		}
		is := trial(l, links)
		if got, e := net.Correct(l, links); got != is || e != want {
			t.Errorf("%v with %v: %v, %v", toldAll(l), links, got, e)
		}
		sequential(t, l, links, is)
	}
	if len(count) < 15 {
		t.Errorf("few faults came: %v", count)
	}
}

func marred(chance *rand.Rand, links [][2]int) [][2]int {
	if len(links) == 0 || chance.Intn(3) == 0 {
		return append(links, [2]int{chance.Intn(9) - 1, chance.Intn(9) - 1})
	}
	if chance.Intn(3) == 0 {
		return links[1:]
	}
	links[chance.Intn(len(links))][chance.Intn(2)] = chance.Intn(9) - 1
	return links
}

// faultOf is the second reckoning of what Correct tells, of formulas without faults.
func faultOf(l []api.Linear, links [][2]int) api.Fault {
	leaves := leavesOf(l...)
	if len(links) > len(leaves) {
		return fault(api.ErrMany, 0)
	}
	count := map[int]int{}
	for at, link := range links {
		for _, leaf := range link {
			if leaf < 0 || leaf >= len(leaves) {
				return fault(api.ErrRange, at)
			}
			count[leaf]++
			if count[leaf] > 1 {
				return fault(api.ErrForm, at)
			}
		}
		if !isPair(leaves[link[0]], leaves[link[1]]) {
			return fault(api.ErrForm, at)
		}
	}
	for leaf := range leaves {
		if count[leaf] == 0 {
			return fault(api.ErrSize, leaf)
		}
	}
	return api.Fault{}
}
