package net_test

import (
	"math/rand"
	"slices"
	"testing"

	"sequent/api"
	"sequent/net"
)

// joined looks at what Join links: as the second reckoning does, each pair and all of them in order, and that it is correct.
func joined(t *testing.T, l []api.Linear, a [][2]int, m []api.Linear, b [][2]int) [][2]int {
	t.Helper()
	links, e := net.Join(l, a, m, b)
	if e != (api.Fault{}) {
		t.Fatalf("%v with %v, %v with %v: %v", toldAll(l), a, toldAll(m), b, e)
	}
	if want := joinedOf(l, a, m, b); !slices.Equal(links, want) {
		t.Fatalf("%v with %v, %v with %v: %v, want %v", toldAll(l), a, toldAll(m), b, links, want)
	}
	whole := rest(l, m)
	if !hasProof(strands(whole, links)) {
		t.Fatalf("%v with %v, %v with %v: %v is not correct", toldAll(l), a, toldAll(m), b, links)
	}
	if len(whole) <= 20 && len(nodesOf(whole...)) <= api.MaxNodes {
		correct(t, whole, links, true)
		sequential(t, whole, links, true)
	}
	return links
}

// rest is what is left when both are joined.
func rest(l, m []api.Linear) []api.Linear {
	return slices.Concat(l[:len(l)-1], m[1:])
}

// joinedOf is the second reckoning of Join: leaves of both nets get numbers from 0 on, and whatever hangs together becomes one, until two leaves that are left are in each.
func joinedOf(l []api.Linear, a [][2]int, m []api.Linear, b [][2]int) [][2]int {
	ahead, all := len(leavesOf(l...)), len(leavesOf(slices.Concat(l, m)...))
	inner := len(leavesOf(m[0]))
	joints := slices.Clone(a)
	for _, link := range b {
		joints = append(joints, [2]int{ahead + link[0], ahead + link[1]})
	}
	for i := range inner {
		joints = append(joints, [2]int{ahead - inner + i, ahead + i})
	}
	group := make([]int, all)
	for i := range group {
		group[i] = i
	}
	for range joints {
		for _, j := range joints {
			least := min(group[j[0]], group[j[1]])
			group[j[0]], group[j[1]] = least, least
		}
	}
	left := slices.Concat(group[:ahead-inner], group[ahead+inner:])
	var links [][2]int
	for i, g := range left {
		if other := slices.Index(left[i+1:], g); other >= 0 {
			links = append(links, [2]int{i, i + 1 + other})
		}
	}
	return links
}

func TestJoin(t *testing.T) {
	for _, c := range []struct {
		l string
		a [][2]int
		m string
		b [][2]int
		w [][2]int
	}{
		{"P p", [][2]int{{0, 1}}, "P p", [][2]int{{0, 1}}, [][2]int{{0, 1}}},
		{"p P", [][2]int{{1, 0}}, "p P", [][2]int{{1, 0}}, [][2]int{{0, 1}}},
		{"P P *pp", [][2]int{{0, 2}, {1, 3}}, "+PP *pp", [][2]int{{0, 2}, {1, 3}}, [][2]int{{0, 2}, {1, 3}}},
		{"P P *pp", [][2]int{{3, 0}, {1, 2}}, "+PP *pp", [][2]int{{0, 2}, {1, 3}}, [][2]int{{0, 3}, {1, 2}}},
		{"P P *pp", [][2]int{{1, 2}, {0, 3}}, "+PP *pp", [][2]int{{2, 1}, {0, 3}}, [][2]int{{0, 2}, {1, 3}}},
		{"+pP", [][2]int{{0, 1}}, "*Pp +Pp", [][2]int{{0, 3}, {1, 2}}, [][2]int{{0, 1}}},
		{"+pP", [][2]int{{0, 1}}, "*Pp P p", [][2]int{{0, 3}, {1, 2}}, [][2]int{{0, 1}}},
		{"*pP +Pp", [][2]int{{0, 2}, {1, 3}}, "*pP P p", [][2]int{{0, 2}, {1, 3}}, [][2]int{{0, 2}, {1, 3}}},
		{"*pP +Pp", [][2]int{{0, 2}, {1, 3}}, "*pP +pP", [][2]int{{0, 3}, {1, 2}}, [][2]int{{0, 3}, {1, 2}}},
		{"P *pq Q", [][2]int{{0, 1}, {2, 3}}, "q *rQ R", [][2]int{{0, 2}, {1, 3}}, [][2]int{{0, 1}, {2, 4}, {3, 5}}},
		{"q Q", [][2]int{{0, 1}}, "q *rQ R", [][2]int{{0, 2}, {1, 3}}, [][2]int{{0, 2}, {1, 3}}},
	} {
		if links := joined(t, list(c.l), c.a, list(c.m), c.b); !slices.Equal(links, c.w) {
			t.Errorf("%s with %v, %s with %v: %v, want %v", c.l, c.a, c.m, c.b, links, c.w)
		}
	}
}

// TestJoinFaults: what is wrong with l and its links, that it is not correct, then so with m, and at last that they do not fit.
func TestJoinFaults(t *testing.T) {
	ok, okLinks := list("p P"), [][2]int{{0, 1}}
	tensors := list("*pP")
	for _, c := range []struct {
		what string
		l    []api.Linear
		a    [][2]int
		m    []api.Linear
		b    [][2]int
		want api.Fault
	}{
		{"both lists are wrong", list("p p")[:0], nil, make([]api.Linear, 1), nil, fault(api.ErrMany, 0)},
		{"links of the first ahead of the second list", ok, nil, nil, nil, fault(api.ErrSize, 0)},
		{"links of the first ahead of those of the second", ok, [][2]int{{0, 2}}, ok, [][2]int{{0, 0}}, fault(api.ErrRange, 0)},
		{"the first is false, ahead of the second list", tensors, okLinks, nil, nil, fault(api.ErrFalse, 0)},
		{"the first is false, ahead of the second's links", tensors, okLinks, list("+pP *Pp"), [][2]int{{0, 1}, {2, 9}}, fault(api.ErrFalse, 0)},
		{"the second list", ok, okLinks, []api.Linear{tensor(atom("p"), atom("P"))}, nil, fault(api.ErrName, 2)},
		{"the second's links", ok, okLinks, list("p P q"), [][2]int{{0, 1}, {2, 0}}, fault(api.ErrForm, 1)},
		{"the second is false, ahead of what does not fit", ok, okLinks, tensors, okLinks, fault(api.ErrFalse, 0)},
		{"they do not fit: the same", ok, okLinks, list("P p"), okLinks, fault(api.ErrForm, 0)},
		{"they do not fit: another name", ok, okLinks, list("q Q"), okLinks, fault(api.ErrForm, 0)},
		{"they do not fit: the dual is the last one", ok, okLinks, list("P p"), okLinks, fault(api.ErrForm, 0)},
		{"they do not fit: the dual is the first one of l", list("P *pq Q"), [][2]int{{0, 1}, {2, 3}}, list("p P"), okLinks, fault(api.ErrForm, 0)},
		{"nothing would be left, but they do not fit", list("+pP"), okLinks, list("+pP"), okLinks, fault(api.ErrForm, 0)},
		{"nothing would be left, but the second is false", list("+pP"), okLinks, list("*Pp"), okLinks, fault(api.ErrFalse, 0)},
		{"nothing would be left, but the first is false", list("*Pp"), okLinks, list("+pP"), okLinks, fault(api.ErrFalse, 0)},
	} {
		refusedJoin(t, c.what, c.l, c.a, c.m, c.b, c.want)
	}
}

// TestDuals: just the dual fits, and nothing that is nearly one.
func TestDuals(t *testing.T) {
	fits := func(l, m string) bool {
		f, g := list(l)[0], list(m)[0]
		links, e := net.Join([]api.Linear{dual(f), f}, straight(f), []api.Linear{g, dual(g)}, straight(g))
		if e != (api.Fault{}) && (e != fault(api.ErrForm, 0) || len(links) != 0) {
			t.Errorf("%s, %s: %v, %v", l, m, links, e)
		}
		return e == api.Fault{}
	}
	all := []string{"p", "P", "q", "Q", "*pq", "+pq", "*PQ", "+PQ", "*qp", "+qp", "*QP", "+QP", "*pQ", "+Pq", "*p*qr", "+P+QR", "**pqr", "++PQR", "*p+qr", "+P*QR", "+P+QQ", "+P+Qr", "*P+QR", "+P*Qr"}
	duals := map[string]string{
		"p": "P", "q": "Q", "*pq": "+PQ", "*qp": "+QP", "*PQ": "+pq", "*QP": "+qp",
		"*pQ": "+Pq", "*p*qr": "+P+QR", "**pqr": "++PQR", "*p+qr": "+P*QR",
	}
	for _, l := range all {
		for _, m := range all {
			if got, want := fits(l, m), duals[l] == m || duals[m] == l; got != want {
				t.Errorf("%s, %s: %v", l, m, got)
			}
		}
	}
}

// TestJoinWithStraight: a net that is joined with what is linked straight is the net that it was, on either side.
func TestJoinWithStraight(t *testing.T) {
	chance := rand.New(rand.NewSource(12))
	for range 500 {
		n := 1 + chance.Intn(20)
		l, links := grown(chance, n, 1+chance.Intn(min(n+1, 20)), "p", "q")
		last, first := l[len(l)-1], l[0]
		if got := joined(t, l, mixed(chance, links), []api.Linear{dual(last), last}, mixed(chance, straight(last))); !slices.Equal(got, links) {
			t.Fatalf("%v with %v: %v", toldAll(l), links, got)
		}
		if got := joined(t, []api.Linear{first, dual(first)}, straight(first), l, links); !slices.Equal(got, links) {
			t.Fatalf("%v with %v: %v", toldAll(l), links, got)
		}
	}
}

// smallNet is a correct net with few leaves.
type smallNet struct {
	l     []api.Linear
	links [][2]int
}

// smallCorrect are all correct nets with so many leaves.
func smallCorrect(leaves int) []smallNet {
	var all []smallNet
	for _, l := range smallLists(leaves) {
		for _, links := range allLinks(l) {
			if trial(l, links) {
				all = append(all, smallNet{l, links})
			}
		}
	}
	return all
}

// TestJoinAllSmall joins all correct nets with up to four leaves, and tells of all that do not fit.
func TestJoinAllSmall(t *testing.T) {
	all := append(smallCorrect(2), smallCorrect(4)...)
	count := 0
	for _, x := range all {
		last := told(dual(x.l[len(x.l)-1]))
		for _, y := range all {
			if told(y.l[0]) != last {
				refusedJoin(t, "no dual", x.l, x.links, y.l, y.links, fault(api.ErrForm, 0))
				continue
			}
			joined(t, x.l, x.links, y.l, y.links)
			count++
		}
	}
	if count < 900 {
		t.Errorf("only %d are joined, of %d", count, len(all))
	}
}

// fitting is a net whose first formula is f.
func fitting(chance *rand.Rand, f api.Linear, links, formulas int) ([]api.Linear, [][2]int) {
	g := grower{chance: chance}
	g.identity(f)
	for range links {
		g.ax("p")
	}
	g.grow(formulas)
	return g.keptFirst()
}

// TestJoinAny has larger nets, and such with crossed links, so that ways go to and fro.
func TestJoinAny(t *testing.T) {
	chance := rand.New(rand.NewSource(13))
	other := 0
	for range 1500 {
		n := 1 + chance.Intn(8)
		l, a := grown(chance, n, 1+chance.Intn(n+1), "p")
		m, b := fitting(chance, dual(l[len(l)-1]), chance.Intn(8), 2+chance.Intn(4))
		first := joined(t, l, mixed(chance, a), m, mixed(chance, b))
		for range 5 {
			x, y := crossed(chance, l, a, chance.Intn(4)), crossed(chance, m, b, chance.Intn(4))
			if !hasProof(strands(l, x)) || !hasProof(strands(m, y)) {
				refusedJoin(t, "crossed", l, x, m, y, fault(api.ErrFalse, 0))
			} else if links := joined(t, l, x, m, y); !slices.Equal(links, first) {
				other++
			}
		}
	}
	if other < 100 {
		t.Errorf("only %d have other links", other)
	}
}

// TestJoinsInAnyOrder: of three nets in a row it does not matter which two are joined first.
func TestJoinsInAnyOrder(t *testing.T) {
	chance := rand.New(rand.NewSource(14))
	for range 300 {
		n := 1 + chance.Intn(5)
		x, a := grown(chance, n, 1+chance.Intn(n+1), "p")
		y, b := fitting(chance, dual(x[len(x)-1]), 1+chance.Intn(4), 2+chance.Intn(3))
		z, c := fitting(chance, dual(y[len(y)-1]), chance.Intn(4), 2+chance.Intn(3))
		ahead := joined(t, rest(x, y), joined(t, x, a, y, b), z, c)
		behind := joined(t, x, a, rest(y, z), joined(t, y, b, z, c))
		if !slices.Equal(ahead, behind) {
			t.Fatalf("%v, %v, %v: %v and %v", toldAll(x), toldAll(y), toldAll(z), ahead, behind)
		}
	}
}

// TestJoinLarge: both nets have as many nodes as they may, or nearly so.
func TestJoinLarge(t *testing.T) {
	chance := rand.New(rand.NewSource(15))
	count := 0
	for range 60 {
		l, a := grown(chance, 55, 20, "p")
		m, b := fitting(chance, dual(l[19]), 25+chance.Intn(20), 20)
		if len(nodesOf(m...)) <= api.MaxNodes {
			joined(t, l, a, m, b)
			count++
		}
	}
	if count < 10 {
		t.Errorf("only %d are joined", count)
	}
	for _, place := range []int{0, 1} {
		f := tower(50, api.LPar, place)
		joined(t, []api.Linear{f, dual(f)}, straight(f), []api.Linear{f, dual(f)}, straight(f))
		joined(t, []api.Linear{dual(f), f}, straight(f), []api.Linear{dual(f), f}, straight(f))
	}
}

// TestJoinsLongerThanLists: what is left may be more formulas than Check allows.
func TestJoinsLongerThanLists(t *testing.T) {
	l, a := row(18)
	all := strands(l, a)
	m, b := unstranded(slices.Concat(all[18:], all[:18]))
	links := joined(t, l, a, m, b)
	if n := len(rest(l, m)); n != 38 || len(links) != 37 {
		t.Errorf("%d links of %d formulas", len(links), n)
	}
}

// TestJoinGoesAllTheWay: each link of both nets is on the only way.
func TestJoinGoesAllTheWay(t *testing.T) {
	for _, many := range []int{1, 2, 49} {
		whole := atom("p")
		for range many {
			whole = par(tensor(atom("p"), opposite("p")), whole)
		}
		var links [][2]int
		for i := range many + 1 {
			links = append(links, [2]int{2 * i, 2*i + 1})
		}
		got := joined(t, []api.Linear{opposite("p"), whole}, links, []api.Linear{dual(whole), atom("p")}, links)
		if !slices.Equal(got, [][2]int{{0, 1}}) {
			t.Errorf("%d: %v", many, got)
		}
	}
}
