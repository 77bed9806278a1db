package calculus_test

import (
	"reflect"
	"testing"

	"sequent/api"
	"sequent/calculus"
)

// roomy is a list that goes on behind its length.
func roomy[T any](l []T, behind ...T) []T {
	n := len(l)
	return append(append([]T{}, l...), behind...)[:n]
}

// roomyFormulas go on behind their lengths with what is no formula.
func roomyFormulas(l []api.Formula) []api.Formula {
	var out []api.Formula
	for _, f := range l {
		f.Kids = roomyFormulas(f.Kids)
		out = append(out, f)
	}
	bad := api.Formula{Kind: -7, Name: "BEHIND"}
	return roomy(out, bad, bad, bad)
}

func roomyProof(p api.Proof) api.Proof {
	if p.F.Kind != 0 {
		p.F = roomyFormulas([]api.Formula{p.F})[0]
	}
	p.End = api.Sequent{Left: roomyFormulas(p.End.Left), Right: roomyFormulas(p.End.Right)}
	var kids []api.Proof
	for _, k := range p.Kids {
		kids = append(kids, roomyProof(k))
	}
	p.Kids = roomy(kids, api.Proof{Rule: "behind"}, api.Proof{Rule: "behind"})
	return p
}

// everything copies formulas with what lies behind their lengths.
func everything(l []api.Formula) []api.Formula {
	var out []api.Formula
	for _, f := range l[:cap(l)] {
		f.Kids = everything(f.Kids)
		out = append(out, f)
	}
	return out
}

func everythingIn(p api.Proof) api.Proof {
	out := api.Proof{Rule: p.Rule, F: everything([]api.Formula{p.F})[0]}
	out.End = api.Sequent{Left: everything(p.End.Left), Right: everything(p.End.Right)}
	for _, k := range p.Kids[:cap(p.Kids)] {
		out.Kids = append(out.Kids, everythingIn(k))
	}
	return out
}

// TestListsAreOnlyRead: neither what is handed in nor what lies behind it is changed, and nothing behind it is read.
func TestListsAreOnlyRead(t *testing.T) {
	for calculus, intuit := range calculi() {
		all := someProofs(t, intuit)
		if !intuit {
			all = append(all, longProof(t))
		}
		for _, c := range casesOf(intuit) {
			all = append(all, step(t, c.rule, c.f, c.end, c.kids...))
		}
		for _, whole := range append(all, bush(2, 1, 50, intuit), chain(t, 20)) {
			want := check(t, calculus, whole, intuit)
			p := roomyProof(whole)
			was := everythingIn(p)
			sameFault(t, calculus+" "+told(t, p.End), check(t, calculus, p, intuit), want)
			if !reflect.DeepEqual(everythingIn(p), was) {
				t.Errorf("%s: the proof of %s is changed", calculus, told(t, p.End))
			}
		}
	}
}

func TestSequentsAreOnlyRead(t *testing.T) {
	for _, text := range []string{"=>", "p => q", "p & q, ~r, p => q | p, r", "p, p =>"} {
		s := sequent(t, text)
		s = api.Sequent{Left: roomyFormulas(s.Left), Right: roomyFormulas(s.Right)}
		was := [2][]api.Formula{everything(s.Left), everything(s.Right)}
		sameFault(t, text, calculus.CheckSequent(s), api.Fault{})
		if !reflect.DeepEqual([2][]api.Formula{everything(s.Left), everything(s.Right)}, was) {
			t.Errorf("%s is changed", text)
		}
	}
}

// TestSidesOfOneList: Left and Right may be pieces of one list, that lie behind one another.
func TestSidesOfOneList(t *testing.T) {
	l := readAll(t, "~p, p & q, r, s")
	was := everything(l)
	p := api.Proof{Rule: "not-l", F: l[0], End: api.Sequent{Left: l[:2], Right: l[2:3]}}
	p.Kids = []api.Proof{{End: sequent(t, "p & q => r, p")}}
	sameFault(t, "pieces", check(t, "pieces", p, false), passed(p))
	p = api.Proof{Rule: "and-l", F: l[1], End: api.Sequent{Left: l[:2], Right: l[2:3]}}
	p.Kids = []api.Proof{{End: sequent(t, "~p, p, q => r")}}
	sameFault(t, "pieces", check(t, "pieces", p, false), passed(p))
	if !reflect.DeepEqual(everything(l), was) {
		t.Errorf("the list is changed: %v", l)
	}
}

// TestListsMayBeNil: nil and empty are the same.
func TestListsMayBeNil(t *testing.T) {
	none := []api.Formula{}
	for _, l := range [][]api.Formula{nil, none, many(2)[:0]} {
		sameFault(t, "nothing", calculus.CheckSequent(api.Sequent{Left: l, Right: none}), api.Fault{})
		p := api.Proof{Rule: "weak", F: api.Formula{Kids: l}, End: api.Sequent{Left: l, Right: l}}
		p.Kids = []api.Proof{{Rule: "true", F: node(api.FTrue, l...), End: api.Sequent{Left: none}}}
		sameFault(t, "nothing", check(t, "nothing", p, true), fault(api.ErrFalse, 1))
		p = api.Proof{Rule: "true", F: node(api.FTrue, l...), End: api.Sequent{Left: l, Right: []api.Formula{{Kind: api.FTrue, Kids: none}}}}
		sameFault(t, "nothing", check(t, "nothing", p, true), api.Fault{})
		p.Kids = []api.Proof{}
		sameFault(t, "nothing", check(t, "nothing", p, true), api.Fault{})
	}
}

func TestAnswersHangOnArgumentsAlone(t *testing.T) {
	for calculus, intuit := range calculi() {
		for _, p := range append(someProofs(t, intuit), longProof(t), api.Proof{}) {
			first := check(t, calculus, p, intuit)
			for range 20 {
				sameFault(t, calculus, check(t, calculus, p, !intuit), check(t, calculus, p, !intuit))
				sameFault(t, calculus, check(t, calculus, p, intuit), first)
			}
		}
	}
}
