package calculus_test

import (
	"testing"

	"sequent/api"
	"sequent/calculus"
)

// chain has so many steps in one another: weak above ax.
func chain(t *testing.T, steps int) api.Proof {
	t.Helper()
	p := proof(t, "ax", "p", "p => p")
	for range steps - 1 {
		p = proof(t, "weak", "", "p => p", p)
	}
	return p
}

// bush has just so many steps, and is not deep: by cuts of p.
func bush(left, right, steps int, intuit bool) api.Proof {
	p := api.Proof{Rule: "ax", F: name("p"), End: api.Sequent{Left: many(left), Right: many(right)}}
	if steps == 2 {
		return api.Proof{Rule: "weak", End: p.End, Kids: []api.Proof{p}}
	}
	if steps > 2 {
		first := (steps - 1) / 2
		more := right + 1
		if intuit {
			more = 1
		}
		p.Rule = "cut"
		p.Kids = []api.Proof{bush(left, more, first, intuit), bush(left+1, right, steps-1-first, intuit)}
	}
	return p
}

func TestMostSteps(t *testing.T) {
	for calculus, intuit := range calculi() {
		for _, steps := range []int{1, 2, 3, 4, 5, 100, api.MaxSteps - 1, api.MaxSteps} {
			sameFault(t, calculus, check(t, calculus, bush(1, 1, steps, intuit), intuit), api.Fault{})
		}
		for _, steps := range []int{api.MaxSteps + 1, api.MaxSteps + 2, 2 * api.MaxSteps} {
			sameFault(t, calculus, check(t, calculus, bush(1, 1, steps, intuit), intuit), fault(api.ErrMany, 0))
		}
	}
}

// TestFaultsBesideManySteps: ErrMany is told when the step that is too many is come to, ahead of what is said of this one.
func TestFaultsBesideManySteps(t *testing.T) {
	for _, steps := range []int{api.MaxSteps, api.MaxSteps + 1, api.MaxSteps + 500} {
		for _, number := range []int{0, 1, 7777, api.MaxSteps - 1, api.MaxSteps, api.MaxSteps + 1} {
			if number >= steps {
				continue
			}
			p, at := bush(1, 1, steps, false), number
			stepAt(&p, &at).Rule = "no"
			want := fault(api.ErrKind, number)
			if number >= api.MaxSteps {
				want = fault(api.ErrMany, 0)
			}
			sameFault(t, "beside many", check(t, "beside many", p, false), want)
		}
	}
}

// TestEndBesideManySteps: the End of the step that is too many is looked at with the step above it.
func TestEndBesideManySteps(t *testing.T) {
	p, at := bush(1, 1, api.MaxSteps+1, true), api.MaxSteps
	stepAt(&p, &at).End = sequent(t, "z => z")
	if e := check(t, "End", p, true); e.Code != api.ErrFalse || e.At >= api.MaxSteps {
		t.Errorf("End of the step that is too many: %v", e)
	}
}

func TestMostDeep(t *testing.T) {
	for calculus, intuit := range calculi() {
		for _, deep := range []int{1, 2, api.MaxDeep - 1, api.MaxDeep} {
			sameFault(t, calculus, check(t, calculus, chain(t, deep), intuit), api.Fault{})
		}
		for _, deep := range []int{api.MaxDeep + 1, api.MaxDeep + 2, 3 * api.MaxDeep} {
			sameFault(t, calculus, check(t, calculus, chain(t, deep), intuit), fault(api.ErrMany, 0))
		}
	}
}

func TestFaultsBesideDeepSteps(t *testing.T) {
	for _, number := range []int{0, 1, 200, api.MaxDeep - 2, api.MaxDeep - 1, api.MaxDeep, api.MaxDeep + 1} {
		p, at := chain(t, api.MaxDeep+2), number
		stepAt(&p, &at).Rule = "no"
		want := fault(api.ErrKind, number)
		if number >= api.MaxDeep {
			want = fault(api.ErrMany, 0)
		}
		sameFault(t, "beside deep", check(t, "beside deep", p, true), want)
	}
}

// TestDeepInOneOfTwo: what is too deep in a Kid is told ahead of what is wrong with the next one, and behind what is wrong with one ahead.
func TestDeepInOneOfTwo(t *testing.T) {
	good, tooDeep := chain(t, 3), chain(t, api.MaxDeep)
	wrong := chain(t, 3)
	wrong.Kids[0].Rule = "no"
	and := func(first, second api.Proof) api.Proof {
		return proof(t, "and-r", "p & p", "p => p & p", first, second)
	}
	for _, c := range []struct {
		what string
		p    api.Proof
		want api.Fault
	}{
		{"both as deep as may be", and(chain(t, api.MaxDeep-1), chain(t, api.MaxDeep-1)), api.Fault{}},
		{"first too deep", and(tooDeep, good), fault(api.ErrMany, 0)},
		{"second too deep", and(good, tooDeep), fault(api.ErrMany, 0)},
		{"too deep, wrong", and(tooDeep, wrong), fault(api.ErrMany, 0)},
		{"wrong, too deep", and(wrong, tooDeep), fault(api.ErrKind, 2)},
		{"good, wrong", and(good, wrong), fault(api.ErrKind, 5)},
	} {
		sameFault(t, c.what, check(t, c.what, c.p, true), c.want)
	}
}

// TestMostFormulas: a premise may be too long for a sequent: then it is the Kid that is wrong, if it ends with it.
func TestMostFormulas(t *testing.T) {
	for calculus, intuit := range calculi() {
		p := api.Proof{Rule: "contr-l", F: name("p"), End: api.Sequent{Left: many(58), Right: many(1)}}
		p.Kids = []api.Proof{{Rule: "ax", F: name("p"), End: api.Sequent{Left: many(59), Right: many(1)}}}
		sameFault(t, calculus, check(t, calculus, p, intuit), api.Fault{})
		p.End, p.Kids[0].End = api.Sequent{Left: many(59), Right: many(1)}, api.Sequent{Left: many(60), Right: many(1)}
		sameFault(t, calculus, check(t, calculus, p, intuit), fault(api.ErrForm, 1))
		p.Kids[0].End = api.Sequent{Left: many(59, name("q")), Right: many(1)}
		sameFault(t, calculus, check(t, calculus, p, intuit), fault(api.ErrFalse, 0))
		p.Kids[0].End = api.Sequent{Left: many(61), Right: many(1)}
		sameFault(t, calculus, check(t, calculus, p, intuit), fault(api.ErrFalse, 0))
		p.End = api.Sequent{Left: many(60), Right: many(1)}
		sameFault(t, calculus, check(t, calculus, p, intuit), fault(api.ErrForm, 0))
	}
	p := api.Proof{Rule: "cut", F: name("p"), End: api.Sequent{Left: many(30), Right: many(30)}}
	p.Kids = []api.Proof{{End: api.Sequent{Left: many(30), Right: many(31)}}, {End: api.Sequent{Left: many(31), Right: many(30)}}}
	sameFault(t, "cut", check(t, "cut", p, false), fault(api.ErrForm, 1))
}

// TestCutOfMostNodes: F need not be in End, and may be as large as a formula may be.
func TestCutOfMostNodes(t *testing.T) {
	for calculus, intuit := range calculi() {
		for nodes, want := range map[int]api.Fault{api.MaxNodes: fault(api.ErrKind, 1), api.MaxNodes + 1: fault(api.ErrForm, 0)} {
			f := nots(nodes-1, name("p"))
			p := api.Proof{Rule: "cut", F: f, Kids: []api.Proof{
				{End: api.Sequent{Right: []api.Formula{f}}}, {End: api.Sequent{Left: []api.Formula{f}}},
			}}
			sameFault(t, calculus, check(t, calculus, p, intuit), want)
		}
	}
}

// TestProofsWithoutEnd hold themselves.
func TestProofsWithoutEnd(t *testing.T) {
	kids := make([]api.Proof, 1)
	kids[0] = proof(t, "weak", "", "p => p")
	kids[0].Kids = kids
	pair := make([]api.Proof, 2)
	again := make([]api.Proof, 1)
	again[0] = proof(t, "cut", "p", "p => p", pair...)
	again[0].Kids = pair
	pair[0] = proof(t, "weak", "", "p => p", again...)
	pair[0].Kids = again
	pair[1] = proof(t, "weak", "", "p, p => p")
	pair[1].Kids = again
	for _, p := range []api.Proof{kids[0], again[0]} {
		if e := calculus.Check(p, true); e != fault(api.ErrMany, 0) {
			t.Errorf("Check: %v", e)
		}
		if n, e := calculus.Cuts(p, true); n != 0 || e != fault(api.ErrMany, 0) {
			t.Errorf("Cuts: %d, %v", n, e)
		}
	}
	kids[0].Rule = "ax"
	sameFault(t, "without end", calculus.Check(kids[0], true), fault(api.ErrForm, 0))
	kids[0].F = name("p")
	sameFault(t, "without end", calculus.Check(kids[0], true), fault(api.ErrSize, 0))
}

func TestVeryManyKids(t *testing.T) {
	kids := make([]api.Proof, 1<<20)
	for _, rule := range []string{"ax", "cut", "weak"} {
		p := proof(t, rule, "", "p => p", kids...)
		if rule != "weak" {
			p.F = name("p")
		}
		sameFault(t, rule, check(t, rule, p, true), fault(api.ErrSize, 0))
	}
}
