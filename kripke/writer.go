package kripke

import (
	"slices"

	"sequent/api"
	"sequent/parts"
	"sequent/set"
)

// mostAlong is how many formulas may be at the Left of a step with premises: where there are more, those that are not needed go first. A step adds two at most, one of them by contr-l, so that no sequent comes near the 60 formulas of layer 3.
//
// Nor does a proof come near MaxDeep: one with the fewest steps has no goal twice, one behind the other, and their Left only grows, so that there are at most 11 times 11 of them there. Each takes one step, perhaps contr-l, and no more than every sixth weak, as it leaves ten parts at most.
const mostAlong = 20

// plan is a step of a proof, for any sequent that has what it needs at the Left.
type plan struct {
	way   way
	needs set.Set
	kids  []plan
}

// planOf is a shortest one for g, of which there is a proof that is not too long.
func (f *finder) planOf(g goal) plan {
	w, _, _ := f.shortest(g, f.ways[g])
	p := plan{way: w}
	if w.isLeft {
		p.needs = set.Of(w.of)
	}
	for _, premise := range w.premises {
		kid := f.planOf(g.over(premise))
		p.kids = append(p.kids, kid)
		p.needs |= kid.needs.Without(set.Of(premise.adds...))
	}
	return p
}

// isNeededAgain: does some premise need the part that the step takes from the Left?
func (p plan) isNeededAgain() bool {
	needsIt := func(kid plan) bool { return kid.needs.Has(p.way.of) }
	return p.way.isLeft && slices.ContainsFunc(p.kids, needsIt)
}

// proof is one of g, of which there is one, with left at its Left, if it keeps to the limits.
func (f *finder) proof(g goal, left []int) (p api.Proof, fits bool) {
	if f.steps[g] == tooMany {
		return api.Proof{}, false
	}
	w := writer{table: f.table}
	p = w.write(f.planOf(g), left, g.right)
	return p, w.steps <= api.MaxSteps
}

// writer makes a plan a proof, in which it does matter how often a formula is at the Left.
type writer struct {
	table *parts.Table
	steps int
}

// write makes p a proof of a sequent that has all that p needs.
func (w *writer) write(p plan, left []int, right int) api.Proof {
	if len(left) > mostAlong && len(p.kids) > 0 {
		needed := p.needs.Members(w.table.Len())
		return w.step("weak", api.Formula{}, left, right, w.write(p, needed, right))
	}
	isIt := func(n int) bool { return n == p.way.of }
	first := slices.IndexFunc(left, isIt)
	if p.isNeededAgain() && !slices.ContainsFunc(left[first+1:], isIt) {
		twice := slices.Concat(left, []int{p.way.of})
		return w.step("contr-l", w.table.Formula(p.way.of), left, right, w.byRule(p, twice, right))
	}
	return w.byRule(p, left, right)
}

// byRule is the step of p itself.
func (w *writer) byRule(p plan, left []int, right int) api.Proof {
	rest := left
	if p.way.isLeft {
		at := slices.Index(left, p.way.of)
		rest = slices.Concat(left[:at], left[at+1:])
	}
	var kids []api.Proof
	for i, premise := range p.way.premises {
		kids = append(kids, w.write(p.kids[i], slices.Concat(rest, premise.adds), premise.right))
	}
	return w.step(p.way.rule, w.table.Formula(p.way.of), left, right, kids...)
}

func (w *writer) step(rule string, f api.Formula, left []int, right int, kids ...api.Proof) api.Proof {
	w.steps++
	var end api.Sequent
	for _, n := range left {
		end.Left = append(end.Left, w.table.Formula(n))
	}
	if right != nothing {
		end.Right = []api.Formula{w.table.Formula(right)}
	}
	return api.Proof{Rule: rule, F: f, End: end, Kids: kids}
}
