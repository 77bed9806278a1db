package cut_test

import (
	"slices"
	"testing"

	"sequent/api"
	"sequent/calculus"
)

// endless holds itself.
func endless() api.Formula {
	kids := make([]api.Formula, 1)
	kids[0] = api.Formula{Kind: api.FNot, Kids: kids}
	return kids[0]
}

// classicLong has steps by the numbers beside them.
func classicLong(t *testing.T) api.Proof {
	t.Helper()
	return proof(t, "cut", "p | ~p", "q -> r, q => r", // 0
		proof(t, "weak", "", "q -> r, q => r, p | ~p", // 1
			proof(t, "or-r", "p | ~p", "=> p | ~p", // 2
				proof(t, "not-r", "~p", "=> p, ~p", // 3
					proof(t, "ax", "p", "p => p")))), // 4
		proof(t, "or-l", "p | ~p", "q -> r, q, p | ~p => r", // 5
			proof(t, "cut", "r", "q, p, q -> r => r", // 6
				proof(t, "then-l", "q -> r", "q, p, q -> r => r, r", // 7
					proof(t, "ax", "q", "q, p => q, r, r"),  // 8
					proof(t, "ax", "r", "r, q, p => r, r")), // 9
				proof(t, "ax", "r", "q, p, q -> r, r => r")), // 10
			proof(t, "not-l", "~p", "q -> r, q, ~p => r", // 11
				proof(t, "contr-r", "r", "q, q -> r => p, r", // 12
					proof(t, "then-l", "q -> r", "q -> r, q => r, r, p", // 13
						proof(t, "ax", "q", "q => r, q, r, p"),     // 14
						proof(t, "ax", "r", "r, q => p, r, r")))))) // 15
}

// intuitLong likewise.
func intuitLong(t *testing.T) api.Proof {
	t.Helper()
	return proof(t, "not-r", "~~(p | ~p)", "=> ~~(p | ~p)", // 0
		proof(t, "cut", "~p", "~(p | ~p) =>", // 1
			proof(t, "not-r", "~p", "~(p | ~p) => ~p", // 2
				proof(t, "not-l", "~(p | ~p)", "p, ~(p | ~p) =>", // 3
					proof(t, "or-r1", "p | ~p", "p => p | ~p", // 4
						proof(t, "ax", "p", "p => p")))), // 5
			proof(t, "cut", "p | ~p", "~(p | ~p), ~p =>", // 6
				proof(t, "or-r2", "p | ~p", "~p, ~(p | ~p) => p | ~p", // 7
					proof(t, "weak", "", "~p, ~(p | ~p) => ~p", // 8
						proof(t, "contr-l", "~p", "~p => ~p", // 9
							proof(t, "ax", "~p", "~p, ~p => ~p")))), // 10
				proof(t, "not-l", "~(p | ~p)", "~(p | ~p), ~p, p | ~p =>", // 11
					proof(t, "ax", "p | ~p", "~p, p | ~p => p | ~p"))))) // 12
}

// longOf is one of both, with how many steps it has.
func longOf(t *testing.T, intuit bool) (p api.Proof, steps int) {
	t.Helper()
	if intuit {
		return intuitLong(t), 13
	}
	return classicLong(t), 16
}

func TestLongOnes(t *testing.T) {
	for calculus, intuit := range calculi() {
		p, steps := longOf(t, intuit)
		deep := 6
		if intuit {
			deep = 7
		}
		measured(t, calculus, p, intuit, steps, deep, 4)
		if q, _ := eliminated(t, p, intuit); q.Rule == "" {
			t.Errorf("%s: nothing is answered", calculus)
		}
	}
}

// TestFaultsOfSteps breaks each step of a proof, each in all ways that can be told wherever it is.
func TestFaultsOfSteps(t *testing.T) {
	box := node(api.FBox, name("p"))
	for calculus, intuit := range calculi() {
		_, steps := longOf(t, intuit)
		for number := range steps {
			for _, c := range []struct {
				what   string
				change func(*api.Proof)
				code   int
			}{
				{"no such rule", func(p *api.Proof) { p.Rule = "no" }, api.ErrKind},
				{"no rule", func(p *api.Proof) { p.Rule = "" }, api.ErrKind},
				{"F with a box", func(p *api.Proof) { p.F = box }, api.ErrForm},
				{"F without end", func(p *api.Proof) { p.F = endless() }, api.ErrForm},
				{"too many Kids", func(p *api.Proof) { p.Kids = append(slices.Clone(p.Kids), make([]api.Proof, 2)...) }, api.ErrSize},
				{"weak, two Kids", func(p *api.Proof) { *p = api.Proof{Rule: "weak", End: p.End, Kids: make([]api.Proof, 2)} }, api.ErrSize},
				{"weak, F", func(p *api.Proof) { *p = api.Proof{Rule: "weak", F: name("p"), End: p.End, Kids: []api.Proof{*p}} }, api.ErrForm},
				{"weak of more", func(p *api.Proof) { *p = weakened(p.End, api.Proof{End: sequent(t, "z => z")}) }, api.ErrFalse},
				{"does not apply", func(p *api.Proof) { p.Rule, p.F = "ax", name("z") }, api.ErrFalse},
				{"cut of Kids that end otherwise", func(p *api.Proof) { p.Rule, p.F, p.Kids = "cut", name("z"), make([]api.Proof, 2) }, api.ErrFalse},
				{"cut of one", func(p *api.Proof) { p.Rule, p.F, p.Kids = "cut", name("z"), make([]api.Proof, 1) }, api.ErrSize},
				{"cut of none", func(p *api.Proof) { p.Rule, p.F, p.Kids = "cut", name("z"), nil }, api.ErrSize},
				{"cut of no formula", func(p *api.Proof) { p.Rule, p.F = "cut", api.Formula{} }, api.ErrForm},
			} {
				p, _ := longOf(t, intuit)
				at := number
				c.change(stepAt(&p, &at))
				refused(t, calculus+" "+c.what, p, intuit, fault(c.code, number))
			}
		}
	}
}

// TestFaultsOfEnds: an End that is none is told of the first step alone; of others the step above says that it is another.
func TestFaultsOfEnds(t *testing.T) {
	p := name("p")
	for what, end := range map[string]api.Sequent{
		"61 formulas": {Left: slices.Repeat([]api.Formula{p}, 60), Right: []api.Formula{p}},
		"a box":       {Left: []api.Formula{p, node(api.FBox, p)}},
		"no formula":  {Left: []api.Formula{p}, Right: []api.Formula{{}}},
		"without end": {Right: []api.Formula{endless()}},
		"no name":     {Left: []api.Formula{name("P")}},
		"no Kids":     {Left: []api.Formula{node(api.FAnd, p)}},
		"201 nodes":   {Left: []api.Formula{nots(200, p)}},
	} {
		for calculus, intuit := range calculi() {
			long, steps := longOf(t, intuit)
			long.End = end
			refused(t, calculus+" "+what, long, intuit, fault(api.ErrForm, 0))
			for number := 1; number < steps; number++ {
				long, _ := longOf(t, intuit)
				at := number
				stepAt(&long, &at).End = end
				refused(t, calculus+" "+what, long, intuit, fault(api.ErrFalse, aboveOf(long, number)))
			}
		}
	}
	two := proof(t, "ax", "p", "p => p, q")
	refused(t, "two at the Right", two, true, fault(api.ErrForm, 0))
	eliminated(t, two, false)
	long := api.Proof{Rule: "contr-l", F: p, End: api.Sequent{Left: slices.Repeat([]api.Formula{p}, 59), Right: []api.Formula{p}}}
	long.Kids = []api.Proof{axiom(p, api.Sequent{Left: with(long.End.Left, p), Right: long.End.Right})}
	refused(t, "a premise that is too long", long, true, fault(api.ErrForm, 1))
	refused(t, "a premise that is too long", long, false, fault(api.ErrForm, 1))
}

// aboveOf is the number of the step above.
func aboveOf(p api.Proof, number int) int {
	next := 1
	for _, k := range p.Kids {
		size := len(stepsOf(k))
		if number == next {
			return 0
		}
		if number < next+size {
			return next + aboveOf(k, number-next)
		}
		next += size
	}
	return -1
}

// TestRulesOfTheOtherCalculus are none here.
func TestRulesOfTheOtherCalculus(t *testing.T) {
	for _, c := range []struct {
		rule, f, end string
		intuit       bool
	}{
		{"or-r", "p | q", "p => p | q", true},
		{"contr-r", "p", "p => p", true},
		{"or-r1", "p | q", "p => p | q", false},
		{"or-r2", "p | q", "q => p | q", false},
	} {
		refused(t, c.rule, proof(t, c.rule, c.f, c.end), c.intuit, fault(api.ErrKind, 0))
	}
	p, _ := longOf(t, true)
	refused(t, "classical", p, false, fault(api.ErrKind, 4))
	p, _ = longOf(t, false)
	refused(t, "intuitionistic", p, true, fault(api.ErrFalse, 0))
	first := proof(t, "cut", "p", "p & q => p", proof(t, "and-l", "p & q", "p & q => p", proof(t, "ax", "p", "p, q => p")), proof(t, "ax", "p", "p & q, p => p"))
	refused(t, "an intuitionistic cut", first, false, fault(api.ErrFalse, 0))
	if _, much := eliminated(t, first, true); much {
		t.Error("too much")
	}
	refused(t, "nothing at all", api.Proof{}, true, fault(api.ErrKind, 0))
	refused(t, "nothing at all", api.Proof{}, false, fault(api.ErrKind, 0))
}

// TestFaultsAheadOfAllElse: what Check says comes ahead of what this chapter says of End.
func TestFaultsAheadOfAllElse(t *testing.T) {
	end := api.Sequent{Left: letters(26), Right: letters(1)}
	for calculus, intuit := range calculi() {
		p := axiomsOf(name("a"), end, intuit)[1]
		if intuit {
			refusedEliminating(t, "26 parts", p, true, fault(api.ErrMany, 0))
		} else {
			eliminated(t, p, false)
		}
		p.Kids[1].Rule = "no"
		refused(t, calculus, p, intuit, fault(api.ErrKind, 2))
		p.Kids[0].F = api.Formula{}
		refused(t, calculus, p, intuit, fault(api.ErrForm, 1))
		p.Kids = p.Kids[:1]
		refused(t, calculus, p, intuit, fault(api.ErrSize, 0))
	}
	p := api.Proof{Rule: "ax", F: name("z"), End: api.Sequent{Left: letters(12), Right: letters(1)}}
	refused(t, "ax that does not apply", p, true, fault(api.ErrFalse, 0))
	p = chain(t, api.MaxDeep)
	p = weakened(api.Sequent{Left: with(letters(26), p.End.Left...), Right: p.End.Right}, p)
	refused(t, "too deep", p, true, fault(api.ErrMany, 0))
}

// TestProofsWithoutEnd hold themselves.
func TestProofsWithoutEnd(t *testing.T) {
	kids := make([]api.Proof, 1)
	kids[0] = proof(t, "weak", "", "p => p")
	kids[0].Kids = kids
	pair := make([]api.Proof, 2)
	again := []api.Proof{proof(t, "cut", "p", "p => p")}
	again[0].Kids = pair
	pair[0] = proof(t, "weak", "", "p => p, p")
	pair[1] = proof(t, "weak", "", "p, p => p")
	pair[0].Kids, pair[1].Kids = again, again
	refused(t, "weak of itself", kids[0], true, fault(api.ErrMany, 0))
	refused(t, "weak of itself", kids[0], false, fault(api.ErrMany, 0))
	refused(t, "cut of itself", again[0], false, fault(api.ErrMany, 0))
	kids[0].Rule, kids[0].F = "ax", name("p")
	refused(t, "ax of itself", kids[0], true, fault(api.ErrSize, 0))
}

// TestFaultsAreThoseOfCheck takes proofs with many kinds of faults at once.
func TestFaultsAreThoseOfCheck(t *testing.T) {
	for what, intuit := range calculi() {
		for _, other := range []bool{false, true} {
			_, steps := longOf(t, other)
			for first := range steps {
				for second := range steps {
					p, _ := longOf(t, other)
					at := first
					stepAt(&p, &at).F = name("zz")
					at = second
					stepAt(&p, &at).Rule = "not-l"
					if e := calculus.Check(p, intuit); e != (api.Fault{}) {
						refused(t, what, p, intuit, e)
					} else {
						eliminated(t, p, intuit)
					}
				}
			}
		}
	}
}
