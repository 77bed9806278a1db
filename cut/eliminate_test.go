package cut_test

import (
	"math/rand"
	"reflect"
	"testing"

	"sequent/api"
	"sequent/calculus"
)

// TestExampleOfTheChapter: a cut with p | ~p to => p | ~p, over any proofs of what it comes of.
func TestExampleOfTheChapter(t *testing.T) {
	want := proof(t, "or-r", "p | ~p", "=> p | ~p", proof(t, "not-r", "~p", "=> p, ~p", proof(t, "ax", "p", "p => p")))
	or := want.F
	first, second := cutPremises(or, want.End, false)
	one, _ := found(first, false)
	two, _ := found(second, false)
	for _, kids := range [][]api.Proof{
		{weakened(first, want), axiom(or, second)},
		{one, two},
		{weakened(first, want), weakened(second, want)},
	} {
		p := api.Proof{Rule: "cut", F: or, End: want.End, Kids: kids}
		if q, much := eliminated(t, p, false); much || !reflect.DeepEqual(q, want) {
			t.Errorf("%v, want %v", q, want)
		}
	}
}

// sample is a step whose premises have proofs in its calculus.
type sample struct {
	rule, f, end string
	premises     []string
}

func samples(intuit bool) []sample {
	common := []sample{
		{"ax", "p", "p => p", nil},
		{"true", "1", "p => 1", nil},
		{"false", "0", "p, 0 => q", nil},
		{"and-l", "p & q", "p & q => q", []string{"p, q => q"}},
		{"and-r", "p & q", "p, q => p & q", []string{"p, q => p", "p, q => q"}},
		{"or-l", "p | q", "p | q => q | p", []string{"p => q | p", "q => q | p"}},
		{"then-r", "q -> p", "p => q -> p", []string{"p, q => p"}},
		{"not-r", "~p", "~p => ~p", []string{"~p, p =>"}},
		{"contr-l", "p", "p => p & p", []string{"p, p => p & p"}},
		{"weak", "", "p, q => p", []string{"p => p"}},
		{"weak", "", "p, ~p => q", []string{"p, ~p =>"}},
	}
	if intuit {
		return append(common, []sample{
			{"or-r1", "p | q", "p => p | q", []string{"p => p"}},
			{"or-r2", "q | p", "p => q | p", []string{"p => p"}},
			{"then-l", "p -> q", "p -> q, p => q", []string{"p => p", "p, q => q"}},
			{"not-l", "~p", "p, ~p => q", []string{"p => p"}},
			{"cut", "p | q", "p => q | p", []string{"p => p | q", "p, p | q => q | p"}},
		}...)
	}
	return append(common, []sample{
		{"or-r", "p | ~p", "=> p | ~p", []string{"=> p, ~p"}},
		{"then-l", "p -> q", "p -> q, p => q", []string{"p => p, q", "p, q => q"}},
		{"not-l", "~p", "p, ~p => q", []string{"p => p, q"}},
		{"contr-r", "p", "p => p", []string{"p => p, p"}},
		{"cut", "p | q", "p => p, q", []string{"p => p, q, p | q", "p, p | q => p, q"}},
	}...)
}

// pool has formulas of each kind.
func pool() []string {
	return []string{"p", "q", "1", "0", "~p", "~0", "p & q", "p & p", "q | p", "p | ~p", "p -> q", "q -> p", "~~(p | ~p)"}
}

// contexts go to the Left of all sequents of a proof: with 0 there, all that is cut has proofs.
func contexts() []string { return []string{"", "p", "q", "r", "0"} }

// among is the sequent with more at its Left.
func among(t *testing.T, text, context string) api.Sequent {
	t.Helper()
	s := sequent(t, text)
	s.Left = with(s.Left, readAll(t, context)...)
	return s
}

// eachSample hands over all of them, in all contexts: the step, without Kids, and its premises.
func eachSample(t *testing.T, intuit bool, look func(step api.Proof, premises []api.Sequent)) {
	t.Helper()
	for _, c := range samples(intuit) {
		for _, context := range contexts() {
			step := proof(t, c.rule, c.f, c.end)
			step.End = among(t, c.end, context)
			var premises []api.Sequent
			for _, text := range c.premises {
				premises = append(premises, among(t, text, context))
			}
			look(step, premises)
		}
	}
}

// TestCutsAboveEveryRule: in the place of each premise of each rule stands a cut, with F of each kind.
func TestCutsAboveEveryRule(t *testing.T) {
	type pair struct {
		rule string
		kind int
	}
	for what, intuit := range calculi() {
		seen := map[pair]int{}
		eachSample(t, intuit, func(step api.Proof, premises []api.Sequent) {
			for _, text := range pool() {
				f := read(t, text)
				step.Kids = nil
				for _, s := range premises {
					kid, valid := foundCut(f, s, intuit)
					if !valid {
						kid, _ = found(s, intuit)
					}
					step.Kids = append(step.Kids, kid)
				}
				if cutsIn(step) > 0 {
					seen[pair{step.Rule, f.Kind}]++
				}
				eliminated(t, step, intuit)
			}
		})
		for _, c := range samples(intuit) {
			for kind := api.FVar; kind <= api.FThen && len(c.premises) > 0; kind++ {
				if seen[pair{c.rule, kind}] == 0 {
					t.Errorf("%s: no cut with a formula of the kind %d above %s", what, kind, c.rule)
				}
			}
		}
	}
}

// TestCutsBelowEveryRule: either premise of a cut ends by each rule, with what the rule speaks of as F, or with something else.
func TestCutsBelowEveryRule(t *testing.T) {
	for what, intuit := range calculi() {
		first, second := map[string]int{}, map[string]int{}
		eachSample(t, intuit, func(step api.Proof, premises []api.Sequent) {
			step.Kids = nil
			for _, s := range premises {
				kid, _ := found(s, intuit)
				step.Kids = append(step.Kids, kid)
			}
			for _, p := range cutsOfRight(t, step, intuit) {
				first[step.Rule]++
				eliminated(t, p, intuit)
			}
			for _, p := range cutsOfLeft(t, step, intuit) {
				second[step.Rule]++
				eliminated(t, p, intuit)
			}
		})
		for _, c := range samples(intuit) {
			if first[c.rule] == 0 || second[c.rule] == 0 {
				t.Errorf("%s: %s ends the first premise of %d cuts, the second of %d", what, c.rule, first[c.rule], second[c.rule])
			}
		}
	}
}

// cutsOfRight cut what is at the Right of p's End: p is the first premise.
func cutsOfRight(t *testing.T, p api.Proof, intuit bool) (all []api.Proof) {
	t.Helper()
	for at, f := range p.End.Right {
		ends := []api.Sequent{{Left: p.End.Left, Right: but(p.End.Right, at)}}
		if intuit {
			for _, text := range pool() {
				ends = append(ends, api.Sequent{Left: p.End.Left, Right: readAll(t, text)})
			}
		}
		for _, end := range ends {
			_, other := cutPremises(f, end, intuit)
			if kid, valid := found(other, intuit); valid {
				all = append(all, api.Proof{Rule: "cut", F: f, End: end, Kids: []api.Proof{p, kid}})
			}
		}
	}
	return all
}

// cutsOfLeft cut what is at the Left of p's End: p is the second premise.
func cutsOfLeft(t *testing.T, p api.Proof, intuit bool) (all []api.Proof) {
	t.Helper()
	for at, f := range p.End.Left {
		end := api.Sequent{Left: but(p.End.Left, at), Right: p.End.Right}
		other, _ := cutPremises(f, end, intuit)
		if kid, valid := found(other, intuit); valid {
			all = append(all, api.Proof{Rule: "cut", F: f, End: end, Kids: []api.Proof{kid, p}})
		}
	}
	return all
}

// TestEmptySides: a side may be empty, in what is cut to, and in premises.
func TestEmptySides(t *testing.T) {
	for _, end := range []string{"=> 1", "0 =>", "p, ~p =>", "=> ~~(p | ~p)", "=> p -> p", "=> ~0", "p & ~p =>"} {
		for what, intuit := range calculi() {
			cuts := 0
			for _, text := range pool() {
				if p, valid := foundCut(read(t, text), sequent(t, end), intuit); valid {
					cuts++
					eliminated(t, p, intuit)
				}
			}
			if cuts == 0 {
				t.Errorf("%s: nothing is cut to %s", what, end)
			}
		}
	}
}

// TestFormulasThatStandMoreThanOnce: the answer's End has them just as often.
func TestFormulasThatStandMoreThanOnce(t *testing.T) {
	for _, c := range []struct {
		end    string
		intuit []bool
	}{
		{"p, p => p", []bool{false, true}},
		{"p, p, p, q, q => p & q", []bool{false, true}},
		{"p & q, p & q => q", []bool{false, true}},
		{"~p, ~p, p =>", []bool{false, true}},
		{"p, p => p, p, p", []bool{false}},
		{"=> p | ~p, p | ~p, p | ~p", []bool{false}},
		{"q => p, ~p, p, ~p", []bool{false}},
	} {
		for _, intuit := range c.intuit {
			end := sequent(t, c.end)
			cuts := 0
			for _, text := range pool() {
				if p, valid := foundCut(read(t, text), end, intuit); valid {
					cuts++
					eliminated(t, p, intuit)
				}
			}
			if cuts == 0 {
				t.Errorf("nothing is cut to %s", c.end)
			}
			p, _ := found(end, intuit)
			eliminated(t, p, intuit)
		}
	}
}

// TestProofsWithoutCut are answered as they are.
func TestProofsWithoutCut(t *testing.T) {
	for what, intuit := range calculi() {
		count := 0
		eachSample(t, intuit, func(step api.Proof, premises []api.Sequent) {
			for _, s := range premises {
				kid, _ := found(s, intuit)
				step.Kids = append(step.Kids, kid)
			}
			if step.Rule == "cut" {
				return
			}
			count++
			if q, much := eliminated(t, step, intuit); much || !reflect.DeepEqual(q, step) {
				t.Errorf("%s: the proof of %s by %s becomes another: %v", what, told(step.End), step.Rule, q)
			}
		})
		if count < 50 {
			t.Errorf("%s: only %d proofs without cut", what, count)
		}
	}
}

// anyFormula has so many nodes, and names of the letters a, b, and so on.
func anyFormula(chance *rand.Rand, nodes, names int) api.Formula {
	switch {
	case nodes == 1 && chance.Intn(8) == 0:
		return node(api.FTrue + chance.Intn(2))
	case nodes == 1:
		return name(string(rune('a' + chance.Intn(names))))
	case nodes == 2 || chance.Intn(4) == 0:
		return node(api.FNot, anyFormula(chance, nodes-1, names))
	}
	first := 1 + chance.Intn(nodes-2)
	return node(api.FAnd+chance.Intn(3), anyFormula(chance, first, names), anyFormula(chance, nodes-1-first, names))
}

// anySequent has so many nodes in all, and at most one formula at the Right, if it is for the intuitionistic calculus.
func anySequent(chance *rand.Rand, nodes, names int, intuit bool) (s api.Sequent) {
	for nodes > 0 {
		n := 1 + chance.Intn(nodes)
		f := anyFormula(chance, n, names)
		if chance.Intn(2) == 0 && (!intuit || len(s.Right) == 0) {
			s.Right = append(s.Right, f)
		} else {
			s.Left = append(s.Left, f)
		}
		nodes -= n
	}
	return s
}

// withCuts puts cuts below some steps of p: of formulas of each kind, over p itself and what is found.
func withCuts(chance *rand.Rand, p api.Proof, names int, intuit bool) api.Proof {
	var kids []api.Proof
	for _, k := range p.Kids {
		kids = append(kids, withCuts(chance, k, names, intuit))
	}
	p.Kids = kids
	for range chance.Intn(3) {
		c, valid := anyCut(chance, p.End, names, intuit)
		if !valid {
			continue
		}
		first, second := cutPremises(c.F, p.End, intuit)
		if !intuit && chance.Intn(2) == 0 {
			c.Kids[0] = weakened(first, p)
		} else {
			c.Kids[1] = weakened(second, p)
		}
		p = c
	}
	return p
}

// anyCut tries some formulas, as few of them come of what is at the Left.
func anyCut(chance *rand.Rand, end api.Sequent, names int, intuit bool) (p api.Proof, valid bool) {
	for tries := 0; tries < 8 && !valid; tries++ {
		p, valid = foundCut(anyFormula(chance, 1+chance.Intn(6), names), end, intuit)
	}
	return p, valid
}

// TestAnyProofs: cuts stand all over them.
func TestAnyProofs(t *testing.T) {
	chance := rand.New(rand.NewSource(1))
	for what, intuit := range calculi() {
		cuts, nested, most := 0, 0, 16
		if intuit {
			most = 12
		}
		for range 5000 {
			s := anySequent(chance, 1+chance.Intn(most), 2, intuit)
			p, valid := found(s, intuit)
			if !valid {
				continue
			}
			p = withCuts(chance, p, 2, intuit)
			if calculus.Check(p, intuit) != (api.Fault{}) {
				t.Fatalf("%s: %s: %v", what, told(s), calculus.Check(p, intuit))
			}
			eliminated(t, p, intuit)
			if n := cutsIn(p); n > 0 {
				cuts++
				if n > 2 {
					nested++
				}
			}
		}
		if cuts < 500 || nested < 400 {
			t.Errorf("%s: only %d proofs with cuts, %d with many", what, cuts, nested)
		}
	}
}

// TestOrderAtASide does not matter: a premise may have its formulas in another one.
func TestOrderAtASide(t *testing.T) {
	p := proof(t, "cut", "q", "p, p -> q, q -> r => r",
		proof(t, "then-l", "p -> q", "q -> r, p -> q, p => q",
			proof(t, "ax", "p", "p, q -> r => p"),
			proof(t, "ax", "q", "q, p, q -> r => q")),
		proof(t, "then-l", "q -> r", "q, q -> r, p -> q, p => r",
			proof(t, "ax", "q", "p -> q, q, p => q"),
			proof(t, "ax", "r", "p, r, q, p -> q => r")))
	if q, much := eliminated(t, p, true); much || q.Rule == "" {
		t.Errorf("%v", q)
	}
}
