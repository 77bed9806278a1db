package cut_test

import (
	"testing"

	"sequent/api"
	"sequent/cut"
)

// measured holds Measure's answer against the numbers.
func measured(t *testing.T, what string, p api.Proof, intuit bool, steps, deep, rank int) {
	t.Helper()
	s, d, r, f := cut.Measure(p, intuit)
	if s != steps || d != deep || r != rank || f != (api.Fault{}) {
		t.Errorf("%s: %d, %d, %d, %v, want %d, %d, %d", what, s, d, r, f, steps, deep, rank)
	}
}

func TestMeasureWithoutCut(t *testing.T) {
	ax := proof(t, "ax", "p", "p => p")
	great := nots(199, name("p"))
	for calculus, intuit := range calculi() {
		for _, c := range []struct {
			what        string
			p           api.Proof
			steps, deep int
		}{
			{"ax", ax, 1, 1},
			{"true", proof(t, "true", "1", "=> 1"), 1, 1},
			{"false", proof(t, "false", "0", "0 =>"), 1, 1},
			{"of a great formula", axiom(great, api.Sequent{Left: []api.Formula{great}, Right: []api.Formula{great}}), 1, 1},
			{"then-r", proof(t, "then-r", "p -> p", "=> p -> p", ax), 2, 2},
			{"and-r", proof(t, "and-r", "p & p", "p => p & p", ax, ax), 3, 2},
			{"the first is deeper", proof(t, "and-r", "p & p", "p => p & p", chain(t, 7), chain(t, 3)), 11, 8},
			{"the second is deeper", proof(t, "and-r", "p & p", "p => p & p", chain(t, 3), chain(t, 7)), 11, 8},
			{"as deep as may be", chain(t, api.MaxDeep), api.MaxDeep, api.MaxDeep},
		} {
			measured(t, calculus+" "+c.what, c.p, intuit, c.steps, c.deep, 0)
		}
	}
}

// chain has so many steps in one another: weak above ax.
func chain(t *testing.T, steps int) api.Proof {
	t.Helper()
	p := proof(t, "ax", "p", "p => p")
	for range steps - 1 {
		p = weakened(p.End, p)
	}
	return p
}

// cutOver cuts f to p's End: by weak of p, if the calculus allows it, and else of what ends with f.
func cutOver(f api.Formula, p, ofF api.Proof, intuit bool) api.Proof {
	first, second := cutPremises(f, p.End, intuit)
	one := weakened(first, p)
	if intuit {
		one = weakened(first, ofF)
	}
	return api.Proof{Rule: "cut", F: f, End: p.End, Kids: []api.Proof{one, weakened(second, p)}}
}

// implied has so many nodes, an odd number, and comes of true alone: 1 -> 1 -> .. 1.
func implied(nodes int) (f api.Formula, p api.Proof) {
	f = node(api.FTrue)
	p = api.Proof{Rule: "true", F: f, End: api.Sequent{Right: []api.Formula{f}}}
	for range nodes / 2 {
		over := api.Sequent{Left: []api.Formula{node(api.FTrue)}, Right: p.End.Right}
		f = node(api.FThen, node(api.FTrue), f)
		p = api.Proof{Rule: "then-r", F: f, End: api.Sequent{Right: []api.Formula{f}}, Kids: []api.Proof{weakened(over, p)}}
	}
	return f, p
}

// TestMeasureRank: the rank is that of the greatest F of a cut, wherever it is, and no other F counts.
func TestMeasureRank(t *testing.T) {
	ax := proof(t, "ax", "p", "p => p")
	for calculus, intuit := range calculi() {
		cutOf := func(nodes int, p api.Proof) api.Proof {
			f, ofF := implied(nodes)
			return cutOver(f, p, ofF, intuit)
		}
		rankOf := func(what string, p api.Proof, rank int) {
			t.Helper()
			all := stepsOf(p)
			measured(t, calculus+" "+what, p, intuit, len(all), deepOf(p), rank)
		}
		for _, nodes := range []int{1, 3, 5, 25, 101, 199} {
			rankOf("one cut", cutOf(nodes, ax), nodes)
			rankOf("the greater one below", cutOf(nodes, cutOf(1, ax)), nodes)
			rankOf("the greater one above", cutOf(1, cutOf(nodes, ax)), nodes)
			rankOf("the greatest between", cutOf(1, cutOf(nodes, cutOf(1, ax))), nodes)
			and := func(a, b api.Proof) api.Proof { return proof(t, "and-r", "p & p", "p => p & p", a, b) }
			rankOf("the greater one first", and(cutOf(nodes, ax), cutOf(1, ax)), nodes)
			rankOf("the greater one second", and(cutOf(1, ax), cutOf(nodes, ax)), nodes)
			rankOf("beside none", and(ax, cutOf(nodes, ax)), nodes)
		}
		great, p := implied(199)
		then := api.Proof{Rule: "cut", F: name("p"), End: api.Sequent{Left: []api.Formula{name("p")}, Right: []api.Formula{great}}}
		first, second := cutPremises(name("p"), then.End, intuit)
		then.Kids = []api.Proof{axiom(name("p"), first), weakened(second, p)}
		rankOf("a small cut beside a great formula", then, 1)
	}
}

func deepOf(p api.Proof) int {
	deep := 0
	for _, k := range p.Kids {
		deep = max(deep, deepOf(k))
	}
	return deep + 1
}

// TestMeasureOfMostNodes: F may have as many nodes as a formula may have, and stand nowhere else.
func TestMeasureOfMostNodes(t *testing.T) {
	f := nots(api.MaxNodes-1, name("p"))
	end := api.Sequent{Left: []api.Formula{node(api.FFalse)}}
	for calculus, intuit := range calculi() {
		first, second := cutPremises(f, end, intuit)
		no := func(s api.Sequent) api.Proof { return api.Proof{Rule: "false", F: node(api.FFalse), End: s} }
		p := api.Proof{Rule: "cut", F: f, End: end, Kids: []api.Proof{no(first), no(second)}}
		measured(t, calculus, p, intuit, 3, 2, api.MaxNodes)
		eliminated(t, p, intuit)
	}
}

// TestMeasureKinds has cuts with F of each kind, in numbers that are counted by hand.
func TestMeasureKinds(t *testing.T) {
	for text, rank := range map[string]int{
		"p": 1, "z": 1, "longname": 1, "1": 1, "0": 1, "~p": 2, "~~p": 3, "p & q": 3, "p & p": 3, "p | q": 3, "p -> q": 3,
		"p -> q -> p": 5, "(p | ~p) & (p | ~p)": 9, "~(p & q) | 0": 6,
	} {
		end := sequent(t, "0 => q")
		for calculus, intuit := range calculi() {
			p, valid := foundCut(read(t, text), end, intuit)
			if !valid {
				t.Fatalf("%s: no proof", text)
			}
			measured(t, calculus+" "+text, p, intuit, 3, 2, rank)
		}
	}
}

// bush has just so many steps, and is not deep: by cuts of p.
func bush(left, right, steps int, intuit bool) api.Proof {
	many := func(n int) (l []api.Formula) {
		for range n {
			l = append(l, name("p"))
		}
		return l
	}
	p := axiom(name("p"), api.Sequent{Left: many(left), Right: many(right)})
	if steps == 2 {
		return weakened(p.End, p)
	}
	if steps > 2 {
		first := (steps - 1) / 2
		more := right + 1
		if intuit {
			more = 1
		}
		p.Rule = "cut"
		p.Kids = []api.Proof{bush(left, more, first, intuit), bush(left+1, right, steps-1-first, intuit)}
	}
	return p
}

func TestMeasureManySteps(t *testing.T) {
	for calculus, intuit := range calculi() {
		for steps, deep := range map[int]int{1: 1, 2: 2, 3: 2, 4: 3, 7: 3, 8: 4, 15: 4, 16: 5, 100: 7, 16383: 14, 16384: 15, api.MaxSteps: 15} {
			rank := 1
			if steps < 3 {
				rank = 0
			}
			p := bush(1, 1, steps, intuit)
			measured(t, calculus, p, intuit, steps, deep, rank)
			eliminated(t, p, intuit)
		}
		refused(t, calculus+" too many", bush(1, 1, api.MaxSteps+1, intuit), intuit, fault(api.ErrMany, 0))
		refused(t, calculus+" too deep", chain(t, api.MaxDeep+1), intuit, fault(api.ErrMany, 0))
	}
}
