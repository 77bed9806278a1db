package calculus_test

import (
	"slices"
	"testing"

	"sequent/api"
)

// TestOrderOfFaults has steps with two things wrong, of which the first is told.
func TestOrderOfFaults(t *testing.T) {
	bad := api.Sequent{Left: []api.Formula{node(api.FBox, name("p"))}}
	with := func(p api.Proof, change func(*api.Proof)) api.Proof {
		change(&p)
		return p
	}
	andL := step(t, "and-l", "p & q", "p & q => r", "p, q => r")
	weak := step(t, "weak", "", "p => q", "p =>")
	for _, c := range []struct {
		what string
		p    api.Proof
		want int
	}{
		{"End, rule", with(andL, func(p *api.Proof) { p.End, p.Rule = bad, "no" }), api.ErrForm},
		{"End, F", with(andL, func(p *api.Proof) { p.End, p.F = bad, api.Formula{} }), api.ErrForm},
		{"End, Kids", with(andL, func(p *api.Proof) { p.End, p.Kids = bad, nil }), api.ErrForm},
		{"End of weak", with(weak, func(p *api.Proof) { p.End, p.Kids = bad, nil }), api.ErrForm},
		{"rule, F", with(andL, func(p *api.Proof) { p.Rule, p.F = "no", api.Formula{} }), api.ErrKind},
		{"rule, F elsewhere", with(andL, func(p *api.Proof) { p.Rule, p.F = "no", name("z") }), api.ErrKind},
		{"rule, Kids", with(andL, func(p *api.Proof) { p.Rule, p.Kids = "no", nil }), api.ErrKind},
		{"F, Kids", with(andL, func(p *api.Proof) { p.F, p.Kids = endless(), nil }), api.ErrForm},
		{"F that is not there, Kids", with(andL, func(p *api.Proof) { p.F, p.Kids = read(t, "q & p"), nil }), api.ErrFalse},
		{"F of another kind, Kids", with(andL, func(p *api.Proof) { p.F, p.Kids = name("r"), nil }), api.ErrFalse},
		{"number of Kids, their Ends", with(andL, func(p *api.Proof) { p.Kids = []api.Proof{weak, weak} }), api.ErrSize},
		{"a Kid's End, its own fault", with(andL, func(p *api.Proof) { p.Kids = []api.Proof{{End: bad}} }), api.ErrFalse},
		{"F of weak, Kids", with(weak, func(p *api.Proof) { p.F, p.Kids = name("p"), nil }), api.ErrForm},
		{"F of weak, Kid's End", with(weak, func(p *api.Proof) { p.F, p.Kids = name("p"), []api.Proof{andL} }), api.ErrForm},
		{"number of Kids of weak, their Ends", with(weak, func(p *api.Proof) { p.Kids = []api.Proof{andL, andL} }), api.ErrSize},
		{"Kid's End of weak, its own fault", with(weak, func(p *api.Proof) { p.Kids = []api.Proof{{End: bad}} }), api.ErrFalse},
		{"nothing at all", api.Proof{}, api.ErrKind},
	} {
		for calculus, intuit := range calculi() {
			sameFault(t, calculus+" "+c.what, check(t, c.what, c.p, intuit), fault(c.want, 0))
		}
	}
}

// TestNotPlain: ErrForm is told of what is not plain in End and in F, whichever way it is not.
func TestNotPlain(t *testing.T) {
	for what, bad := range notPlain() {
		for calculus, intuit := range calculi() {
			for _, rule := range []string{"ax", "and-l", "contr-l", "cut", "then-l", "weak", "no"} {
				p := api.Proof{Rule: rule, F: name("p"), End: api.Sequent{Left: many(2, bad.f), Right: many(1)}}
				sameFault(t, calculus+" "+what+" at the left", check(t, what, p, intuit), fault(api.ErrForm, 0))
				p.End = api.Sequent{Left: many(2), Right: []api.Formula{bad.f}}
				sameFault(t, calculus+" "+what+" at the right", check(t, what, p, intuit), fault(api.ErrForm, 0))
				if rule == "weak" || rule == "no" {
					continue
				}
				p = api.Proof{Rule: rule, F: bad.f, End: sequent(t, "p => p")}
				sameFault(t, calculus+" "+what+" as F", check(t, what, p, intuit), fault(api.ErrForm, 0))
			}
		}
	}
}

// TestRightOfIntuitionistic: more than one formula at the Right is a fault there, ahead of the rule.
func TestRightOfIntuitionistic(t *testing.T) {
	for _, c := range []struct{ rule, f, end string }{
		{"ax", "p", "p => p, q"},
		{"ax", "p", "p => p, p"},
		{"true", "1", "=> 1, 1"},
		{"false", "0", "0 => p, q"},
		{"or-r", "p | q", "=> p | q, r"},
		{"no", "p", "=> p, q"},
		{"weak", "", "p => q, q"},
		{"weak", "p", "p => q, q, r"},
	} {
		p := step(t, c.rule, c.f, c.end)
		sameFault(t, c.rule+" of "+c.end, check(t, c.rule, p, true), fault(api.ErrForm, 0))
	}
	p := step(t, "weak", "", "p => q", "p => q, q")
	sameFault(t, "two at a Kid's Right", check(t, "two", p, true), fault(api.ErrFalse, 0))
}

// longProof is classical, of as many steps as the numbers beside them tell.
func longProof(t *testing.T) api.Proof {
	return proof(t, "cut", "p | ~p", "q -> r, q => r", // 0
		proof(t, "weak", "", "q -> r, q => r, p | ~p", // 1
			proof(t, "or-r", "p | ~p", "=> p | ~p", // 2
				proof(t, "not-r", "~p", "=> p, ~p", // 3
					proof(t, "ax", "p", "p => p")))), // 4
		proof(t, "or-l", "p | ~p", "q -> r, q, p | ~p => r", // 5
			proof(t, "then-l", "q -> r", "q, p, q -> r => r", // 6
				proof(t, "ax", "q", "q, p => q, r"),  // 7
				proof(t, "ax", "r", "r, q, p => r")), // 8
			proof(t, "not-l", "~p", "q -> r, q, ~p => r", // 9
				proof(t, "contr-r", "r", "q, q -> r => p, r", // 10
					proof(t, "then-l", "q -> r", "q -> r, q => r, r, p", // 11
						proof(t, "ax", "q", "q => r, q, r, p"),     // 12
						proof(t, "ax", "r", "r, q => p, r, r")))))) // 13
}

const longSteps = 14

// stepAt is the place of a step in p, by its number.
func stepAt(p *api.Proof, at *int) *api.Proof {
	if *at == 0 {
		return p
	}
	*at--
	for i := range p.Kids {
		if found := stepAt(&p.Kids[i], at); found != nil {
			return found
		}
	}
	return nil
}

// TestNumbersOfSteps breaks each step of a proof, each in some ways.
func TestNumbersOfSteps(t *testing.T) {
	sameFault(t, "whole", check(t, "whole", longProof(t), false), api.Fault{})
	for number := range longSteps {
		for _, c := range []struct {
			what   string
			change func(*api.Proof)
			code   int
		}{
			{"rule", func(p *api.Proof) { p.Rule = "no" }, api.ErrKind},
			{"F", func(p *api.Proof) { p.F = node(api.FBox, name("p")) }, api.ErrForm},
			{"Kids", func(p *api.Proof) { p.Kids = append(slices.Clone(p.Kids), make([]api.Proof, 2)...) }, api.ErrSize},
		} {
			p, at := longProof(t), number
			c.change(stepAt(&p, &at))
			sameFault(t, c.what, check(t, c.what, p, false), fault(c.code, number))
		}
	}
}

// TestFirstOfTwoFaults breaks two steps, of which the one that comes first is told.
func TestFirstOfTwoFaults(t *testing.T) {
	for first := range longSteps {
		for second := range longSteps {
			p := longProof(t)
			at := first
			stepAt(&p, &at).Rule = "no"
			at = second
			stepAt(&p, &at).Rule = "nothing"
			sameFault(t, "two", check(t, "two", p, false), fault(api.ErrKind, min(first, second)))
		}
	}
}

// TestEndsOfKids: where a Kid ends otherwise it is the step above that is wrong, ahead of all that is in it.
func TestEndsOfKids(t *testing.T) {
	above := map[int]int{1: 0, 2: 1, 3: 2, 4: 3, 5: 0, 6: 5, 7: 6, 8: 6, 9: 5, 10: 9, 11: 10, 12: 11, 13: 11}
	for number, want := range above {
		for _, end := range []api.Sequent{
			sequent(t, "z => z"),
			{Left: []api.Formula{endless()}},
			{Left: make([]api.Formula, 1<<16)},
			{Right: []api.Formula{{}}},
		} {
			p, at := longProof(t), number
			stepAt(&p, &at).End = end
			sameFault(t, "other End", check(t, "other End", p, false), fault(api.ErrFalse, want))
			at = want
			if broken := stepAt(&p, &at); len(broken.Kids) == 2 {
				broken.Kids[0].Rule = "no"
				sameFault(t, "other End, and a rule", check(t, "other End", p, false), fault(api.ErrFalse, want))
			}
		}
	}
	p := longProof(t)
	p.End = sequent(t, "q => r")
	sameFault(t, "other End of all", check(t, "other End", p, false), fault(api.ErrFalse, 0))
}

// TestKidsThatAreNoFormulas: what looks like a premise but for a field that must be empty is another formula.
func TestKidsThatAreNoFormulas(t *testing.T) {
	p := step(t, "not-r", "~1", "=> ~1", "1 =>")
	for _, f := range []api.Formula{
		{Kind: api.FTrue, Name: "p"}, node(api.FTrue, name("p")), node(api.FTrue, endless()), {}, {Kind: api.FTrue + 1},
	} {
		p.Kids[0].End.Left = []api.Formula{f}
		sameFault(t, "no formula", check(t, "no formula", p, false), fault(api.ErrFalse, 0))
	}
	p.Kids[0].End.Left = []api.Formula{{Kind: api.FTrue, Kids: []api.Formula{}}}
	sameFault(t, "empty list", check(t, "empty list", p, false), passed(p))
}

func TestExamplesOfTheChapter(t *testing.T) {
	ax := proof(t, "ax", "p", "p => p")
	for calculus, intuit := range calculi() {
		sameFault(t, calculus, check(t, calculus, ax, intuit), api.Fault{})
	}
	or := proof(t, "or-r", "p | ~p", "=> p | ~p", proof(t, "not-r", "~p", "=> p, ~p", ax))
	sameFault(t, "p or not p", check(t, "p or not p", or, false), api.Fault{})
	sameFault(t, "p or not p", check(t, "p or not p", or, true), fault(api.ErrKind, 0))
}

func TestIntuitionisticProof(t *testing.T) {
	end := "=> ~~(p | ~p)"
	p := proof(t, "not-r", "~~(p | ~p)", end, // 0
		proof(t, "contr-l", "~(p | ~p)", "~(p | ~p) =>", // 1
			proof(t, "not-l", "~(p | ~p)", "~(p | ~p), ~(p | ~p) =>", // 2
				proof(t, "or-r2", "p | ~p", "~(p | ~p) => p | ~p", // 3
					proof(t, "not-r", "~p", "~(p | ~p) => ~p", // 4
						proof(t, "not-l", "~(p | ~p)", "p, ~(p | ~p) =>", // 5
							proof(t, "or-r1", "p | ~p", "p => p | ~p", // 6
								proof(t, "ax", "p", "p => p")))))))) // 7
	sameFault(t, end, check(t, end, p, true), api.Fault{})
	sameFault(t, end, check(t, end, p, false), fault(api.ErrKind, 3))
	at := 6
	stepAt(&p, &at).Rule = "or-r2"
	sameFault(t, end, check(t, end, p, true), fault(api.ErrFalse, 6))
}

// TestThenAndNotDiffer: these two, and cut, have other premises in each calculus.
func TestThenAndNotDiffer(t *testing.T) {
	for _, c := range []struct {
		rule, f, end    string
		classic, intuit []string
	}{
		{"then-l", "p -> q", "p -> q => s", []string{"=> s, p", "q => s"}, []string{"=> p", "q => s"}},
		{"not-l", "~p", "~p => s", []string{"=> s, p"}, []string{"=> p"}},
		{"cut", "p", "r => s", []string{"r => s, p", "r, p => s"}, []string{"r => p", "r, p => s"}},
	} {
		classic, intuit := step(t, c.rule, c.f, c.end, c.classic...), step(t, c.rule, c.f, c.end, c.intuit...)
		sameFault(t, c.rule, check(t, c.rule, classic, false), passed(classic))
		sameFault(t, c.rule, check(t, c.rule, intuit, true), passed(intuit))
		sameFault(t, c.rule, check(t, c.rule, classic, true), fault(api.ErrFalse, 0))
		sameFault(t, c.rule, check(t, c.rule, intuit, false), fault(api.ErrFalse, 0))
	}
}
