package net_test

import (
	"math/rand"
	"reflect"
	"slices"
	"testing"
	"unsafe"

	"sequent/api"
	"sequent/net"
)

// roomy lists go on behind their lengths with what must not stand there.
func roomy[T any](l []T, bad T) []T {
	return append(slices.Clone(l), bad, bad, bad)[:len(l)]
}

func roomyFormulas(l []api.Linear) []api.Linear {
	var out []api.Linear
	for _, f := range l {
		f.Kids = roomyFormulas(f.Kids)
		out = append(out, f)
	}
	return roomy(out, api.Linear{Kind: 99, Name: "BEHIND", Not: true})
}

func roomyLinks(l [][2]int) [][2]int { return roomy(l, [2]int{-1, 99}) }

// everyFormula copies formulas with what lies behind the lengths of their lists.
func everyFormula(l []api.Linear) []api.Linear {
	var out []api.Linear
	for _, f := range l[:cap(l)] {
		f.Kids = everyFormula(f.Kids)
		out = append(out, f)
	}
	return out
}

// question has two nets, of which all calls are asked.
type question struct {
	l []api.Linear
	a [][2]int
	m []api.Linear
	b [][2]int
}

type answer struct {
	is     [2]bool
	found  [][2]int
	tree   api.Tree
	links  [][2]int
	faults [5]api.Fault
}

func (q question) asked() (a answer) {
	a.faults[0] = net.Check(q.l)
	a.is[0], a.faults[1] = net.Correct(q.l, q.a)
	a.found, a.is[1], a.faults[2] = net.Prove(q.l)
	a.tree, a.faults[3] = net.Sequential(q.l, q.a)
	a.links, a.faults[4] = net.Join(q.l, q.a, q.m, q.b)
	return a
}

func someQuestions() []question {
	p, pLinks := list("p P"), [][2]int{{0, 1}}
	var all []question
	for _, c := range falseNets() {
		all = append(all, question{c.l, c.links, p, pLinks}, question{p, pLinks, c.l, c.links})
	}
	for _, c := range faultyNets() {
		if len(c.links) < 100 {
			all = append(all, question{c.l, c.links, p, pLinks}, question{p, pLinks, c.l, c.links})
		}
	}
	chance := rand.New(rand.NewSource(16))
	for range 300 {
		n := 1 + chance.Intn(9)
		l, a := grown(chance, n, 1+chance.Intn(n+1), "p", "q")
		m, b := fitting(chance, dual(l[len(l)-1]), chance.Intn(5), 2+chance.Intn(3))
		all = append(all, question{l, mixed(chance, a), m, mixed(chance, b)})
		all = append(all, question{l, crossed(chance, l, a, 3), m, crossed(chance, m, b, 3)})
	}
	l, a := grown(chance, 55, 20, "p")
	return append(all, question{l, a, []api.Linear{dual(l[19]), l[19]}, straight(l[19])})
}

// TestListsAreOnlyRead: neither what is handed in nor what lies behind it is changed, and nothing behind it is read.
func TestListsAreOnlyRead(t *testing.T) {
	for _, q := range someQuestions() {
		want := q.asked()
		r := question{roomyFormulas(q.l), roomyLinks(q.a), roomyFormulas(q.m), roomyLinks(q.b)}
		parts := func() [4]any {
			return [4]any{everyFormula(r.l), slices.Clone(r.a[:cap(r.a)]), everyFormula(r.m), slices.Clone(r.b[:cap(r.b)])}
		}
		ahead := parts()
		if got := r.asked(); !reflect.DeepEqual(got, want) {
			t.Fatalf("%v with %v, %v with %v: %v, want %v", toldAll(q.l), q.a, toldAll(q.m), q.b, got, want)
		}
		if !reflect.DeepEqual(parts(), ahead) {
			t.Fatalf("%v with %v, %v with %v: it is changed", toldAll(q.l), q.a, toldAll(q.m), q.b)
		}
	}
}

// places has where each element of a list lies, those behind its length, too.
type places struct {
	seen   map[any]int
	shared int
}

// newPlaces tells whether the list's elements lie where no others did.
func newPlaces[T any](p *places, l []T) bool {
	all := l[:cap(l)]
	for i := range all {
		p.seen[&all[i]]++
		if p.seen[&all[i]] > 1 {
			p.shared++
			return false
		}
	}
	return true
}

func (p *places) formulas(l []api.Linear) {
	if newPlaces(p, l) {
		for _, f := range l {
			p.formulas(f.Kids)
		}
	}
}

func (p *places) trees(l []api.Tree) {
	if newPlaces(p, l) {
		for _, t := range l {
			p.formulas(t.End)
			p.trees(t.Kids)
		}
	}
}

// TestAnswersAreNewMemory: no two lists of an answer share any, nor one of them and one that was handed in.
func TestAnswersAreNewMemory(t *testing.T) {
	for _, q := range someQuestions() {
		p := places{seen: map[any]int{}}
		r := question{roomyFormulas(q.l), roomyLinks(q.a), roomyFormulas(q.m), roomyLinks(q.b)}
		p.formulas(r.l)
		p.formulas(r.m)
		newPlaces(&p, r.a)
		newPlaces(&p, r.b)
		for range 2 {
			a := r.asked()
			newPlaces(&p, a.found)
			newPlaces(&p, a.links)
			p.formulas(a.tree.End)
			p.trees(a.tree.Kids)
		}
		if p.shared > 0 {
			t.Fatalf("%v with %v, %v with %v: memory is shared", toldAll(q.l), q.a, toldAll(q.m), q.b)
		}
	}
}

func TestNamesAreNotKept(t *testing.T) {
	text := string([]byte("letters"))
	at := unsafe.StringData(text)
	tree, _ := net.Sequential([]api.Linear{par(atom(text), opposite(text))}, [][2]int{{0, 1}})
	for _, f := range slices.Concat(leavesOf(tree.End...), leavesOf(tree.Kids[0].End...)) {
		if f.Name != "letters" || unsafe.StringData(f.Name) == at {
			t.Errorf("%v: the name is kept", f)
		}
	}
}

// TestFormulasThatShareTheirKids: one list may stand at several nodes, and one formula in both nets.
func TestFormulasThatShareTheirKids(t *testing.T) {
	kids := list("p P")
	f := api.Linear{Kind: api.LPar, Kids: kids}
	whole := api.Linear{Kind: api.LTensor, Kids: []api.Linear{f, f}}
	links := [][2]int{{0, 1}, {2, 3}}
	if !looked(t, []api.Linear{whole}, links) {
		t.Error("it is not correct")
	}
	proved(t, []api.Linear{whole}, true)
	l := []api.Linear{dual(f), f}
	joined(t, l, straight(f), []api.Linear{l[0], l[1]}, straight(f))
	if !slices.Equal(toldAll(kids), []string{"p", "~p"}) {
		t.Errorf("%v", toldAll(kids))
	}
}

// TestListsMayBeNil: nil and empty are the same.
func TestListsMayBeNil(t *testing.T) {
	for _, kids := range [][]api.Linear{nil, {}, list("p")[:0]} {
		p, not := atom("p"), opposite("p")
		p.Kids, not.Kids = kids, kids
		if !looked(t, []api.Linear{p, not}, [][2]int{{0, 1}}) {
			t.Error("it is not correct")
		}
		proved(t, []api.Linear{p, not}, true)
		joined(t, []api.Linear{p, not}, [][2]int{{0, 1}}, []api.Linear{atom("p"), opposite("p")}, [][2]int{{0, 1}})
	}
	for _, links := range [][][2]int{nil, {}, {{0, 1}}} {
		refused(t, "no links", list("p P"), links[:0], fault(api.ErrSize, 0))
	}
	for _, l := range [][]api.Linear{nil, {}, list("p P")} {
		refused(t, "no formulas", l[:0], nil, fault(api.ErrMany, 0))
	}
}

func TestAnswersHangOnArgumentsAlone(t *testing.T) {
	all := someQuestions()
	var first []answer
	for _, q := range all {
		first = append(first, q.asked())
	}
	for at, q := range slices.Backward(all) {
		if a := q.asked(); !reflect.DeepEqual(a, first[at]) {
			t.Errorf("%v with %v: %v, and then %v", toldAll(q.l), q.a, first[at], a)
		}
	}
}
