package calculus_test

import (
	"slices"
	"strings"
	"testing"

	"sequent/api"
)

// ruleCase has a step that its rule allows, and Ends to which it does not apply with that F.
type ruleCase struct {
	rule, f, end string
	kids         []string
	notThere     []string
}

func commonCases() []ruleCase {
	return []ruleCase{
		{"ax", "p", "p => p", nil, []string{"p =>", "=> p", "=>", "q => p", "p => q", "p & p => p"}},
		{"ax", "p & q", "r, p & q => p & q", nil, []string{"q & p => p & q", "p, q => p & q", "p & q => p"}},
		{"true", "1", "p => 1", nil, []string{"p => p", "1 => p", "1 =>", "=>", "=> ~0"}},
		{"false", "0", "p, 0 => q", nil, []string{"p => q", "p => 0", "=> 0", "=>", "~1 => p"}},
		{"and-l", "p & q", "r, p & q => s", []string{"r, p, q => s"}, []string{"r => p & q", "r, p, q => s", "q & p => s", "=>"}},
		{"and-l", "p & q", "p & q, p & q => s", []string{"p, q, p & q => s"}, []string{"p | q => s", "~(p & q) => s"}},
		{"and-r", "p & q", "r => p & q", []string{"r => p", "r => q"}, []string{"p & q => r", "r => q & p", "r => p", "=>"}},
		{"or-l", "p | q", "r, p | q => s", []string{"r, p => s", "r, q => s"}, []string{"r => p | q", "p, q => s", "q | p => s", "=>"}},
		{"or-l", "p | p", "p | p, p =>", []string{"p, p =>", "p, p =>"}, []string{"p, p =>"}},
		{"then-r", "p -> q", "r => p -> q", []string{"r, p => q"}, []string{"p -> q => r", "r, p => q", "=> q -> p", "=>"}},
		{"not-r", "~p", "r => ~p", []string{"r, p =>"}, []string{"~p => r", "r => ~~p", "r => p", "p =>", "=>"}},
		{"contr-l", "p", "p, q => s", []string{"p, q, p => s"}, []string{"q => p", "q => s", "=> p", "=>", "p & q => s"}},
		{"contr-l", "p -> q", "p -> q =>", []string{"p -> q, p -> q =>"}, []string{"p => p -> q"}},
	}
}

func classicCases() []ruleCase {
	return append(commonCases(), []ruleCase{
		{"ax", "p", "p, q, p => s, p", nil, []string{"p, q => s, q", "q => p, p", "p => q, s"}},
		{"true", "1", "=> p, 1, q", nil, []string{"1 => p, q"}},
		{"false", "0", "0 => p, q", nil, []string{"p => 0, q"}},
		{"and-l", "p & q", "p & q => s, p & q", []string{"p, q => s, p & q"}, []string{"p => p & q, p & q"}},
		{"and-r", "p & q", "r => s, p & q", []string{"r => s, p", "r => s, q"}, []string{"p & q => r, s"}},
		{"and-r", "p & q", "p & q => p & q, p & q", []string{"p & q => p & q, p", "p & q => p & q, q"}, []string{"=> p, q"}},
		{"or-l", "p | q", "p | q => r, s", []string{"p => r, s", "q => r, s"}, []string{"r => s, p | q"}},
		{"then-r", "p -> q", "r => s, p -> q", []string{"r, p => s, q"}, []string{"p -> q => p, q"}},
		{"not-r", "~p", "r => s, ~p", []string{"r, p => s"}, []string{"~p => r, s"}},
		{"not-r", "~p", "=> ~p, ~p", []string{"p => ~p"}, []string{"=> p, p"}},
		{"contr-l", "p", "p => r, s, p", []string{"p, p => r, s, p"}, []string{"r => s, p"}},
		{"or-r", "p | q", "r => p | q", []string{"r => p, q"}, []string{"p | q => r", "r => q | p", "r => p, q", "=>"}},
		{"or-r", "p | q", "r => s, p | q, p | q", []string{"r => s, p | q, p, q"}, []string{"=> p & q"}},
		{"then-l", "p -> q", "r, p -> q => s", []string{"r => s, p", "r, q => s"}, []string{"r => p -> q", "q -> p => s", "r, p => q", "=>"}},
		{"then-l", "p -> q", "p -> q, p -> q => s, t", []string{"p -> q => s, t, p", "p -> q, q => s, t"}, []string{"p | q => s, t"}},
		{"not-l", "~p", "r, ~p => s", []string{"r => s, p"}, []string{"r => ~p", "p => s", "~~p => s", "=>"}},
		{"not-l", "~p", "~p, ~p =>", []string{"~p => p"}, []string{"p, p =>"}},
		{"contr-r", "p", "r => q, p", []string{"r => q, p, p"}, []string{"p => q, r", "p =>", "=>", "=> p & q"}},
		{"contr-r", "p | q", "=> p | q", []string{"=> p | q, p | q"}, []string{"p | q => p"}},
		{"cut", "p", "r => s", []string{"r => s, p", "r, p => s"}, nil},
		{"cut", "p -> q", "=>", []string{"=> p -> q", "p -> q =>"}, nil},
		{"cut", "p", "p => p, s", []string{"p => p, s, p", "p, p => p, s"}, nil},
	}...)
}

func intuitCases() []ruleCase {
	return append(commonCases(), []ruleCase{
		{"or-r1", "p | q", "r => p | q", []string{"r => p"}, []string{"p | q => r", "r => q | p", "r => p", "=>"}},
		{"or-r2", "p | q", "r => p | q", []string{"r => q"}, []string{"p | q => r", "r => q | p", "r => q", "=>"}},
		{"then-l", "p -> q", "r, p -> q => s", []string{"r => p", "r, q => s"}, []string{"r => p -> q", "q -> p => s", "r, p => q", "=>"}},
		{"then-l", "p -> q", "p -> q, p -> q =>", []string{"p -> q => p", "p -> q, q =>"}, []string{"p, q =>"}},
		{"not-l", "~p", "r, ~p => s", []string{"r => p"}, []string{"r => ~p", "p => s", "~~p => s", "=>"}},
		{"not-l", "~p", "~p, ~p =>", []string{"~p => p"}, []string{"p, p =>"}},
		{"cut", "p", "r => s", []string{"r => p", "r, p => s"}, nil},
		{"cut", "p -> q", "=>", []string{"=> p -> q", "p -> q =>"}, nil},
		{"cut", "p", "p => p", []string{"p => p", "p, p => p"}, nil},
	}...)
}

func casesOf(intuit bool) []ruleCase {
	if intuit {
		return intuitCases()
	}
	return classicCases()
}

func TestRules(t *testing.T) {
	for calculus, intuit := range calculi() {
		for _, c := range casesOf(intuit) {
			what := calculus + " " + c.rule + ": " + c.end
			p := step(t, c.rule, c.f, c.end, c.kids...)
			sameFault(t, what, check(t, what, p, intuit), passed(p))
			for _, end := range c.notThere {
				p := step(t, c.rule, c.f, end, c.kids...)
				sameFault(t, what+", not of "+end, check(t, what, p, intuit), fault(api.ErrFalse, 0))
			}
			otherFormula(t, what, c, intuit)
			otherKids(t, what, p, intuit)
		}
	}
}

// otherFormula: what is not the step's F.
func otherFormula(t *testing.T, what string, c ruleCase, intuit bool) {
	t.Helper()
	for _, f := range []string{"z", "~z", "z & z", "z | z", "z -> z", "1 & 1", "0 | 0"} {
		want := fault(api.ErrFalse, 0)
		p := step(t, c.rule, f, c.end, c.kids...)
		sameFault(t, what+", of "+f, check(t, what, p, intuit), want)
	}
}

// otherKids: one too few, too many, and each other than it is.
func otherKids(t *testing.T, what string, p api.Proof, intuit bool) {
	t.Helper()
	kids := p.Kids
	for n := range 5 {
		if n == len(kids) {
			continue
		}
		p.Kids = append(slices.Clone(kids), make([]api.Proof, 5)...)[:n]
		sameFault(t, what+", other number of Kids", check(t, what, p, intuit), fault(api.ErrSize, 0))
	}
	for i := range kids {
		for _, end := range otherEnds(t, kids[i].End) {
			p.Kids = slices.Clone(kids)
			p.Kids[i].End = end
			sameFault(t, what+", a Kid that ends with "+told(t, end), check(t, what, p, intuit), fault(api.ErrFalse, 0))
		}
	}
	if len(kids) == 2 && told(t, kids[0].End) != told(t, kids[1].End) {
		p.Kids = []api.Proof{kids[1], kids[0]}
		sameFault(t, what+", Kids turned", check(t, what, p, intuit), fault(api.ErrFalse, 0))
	}
}

// otherEnds are sequents that differ from s by a formula that is taken out, put in, doubled, or made another, and by the side.
func otherEnds(t *testing.T, s api.Sequent) []api.Sequent {
	t.Helper()
	z := name("z")
	with := func(l []api.Formula, more ...api.Formula) []api.Formula { return append(slices.Clone(l), more...) }
	all := []api.Sequent{
		{Left: with(s.Left, z), Right: s.Right},
		{Left: s.Left, Right: with(s.Right, z)},
	}
	for i, f := range s.Left {
		rest := slices.Delete(slices.Clone(s.Left), i, i+1)
		all = append(all,
			api.Sequent{Left: rest, Right: s.Right},
			api.Sequent{Left: with(rest, z), Right: s.Right},
			api.Sequent{Left: rest, Right: with(s.Right, f)},
			api.Sequent{Left: with(s.Left, f), Right: s.Right},
			api.Sequent{Left: s.Left, Right: with(s.Right, f)},
			api.Sequent{Left: with(rest, node(api.FNot, f)), Right: s.Right},
		)
		if other := (i + 1) % len(s.Left); told(t, api.Sequent{Left: s.Left[other : other+1]}) != told(t, api.Sequent{Left: s.Left[i : i+1]}) {
			all = append(all, api.Sequent{Left: with(rest, s.Left[other]), Right: s.Right})
		}
	}
	for i, f := range s.Right {
		rest := slices.Delete(slices.Clone(s.Right), i, i+1)
		all = append(all,
			api.Sequent{Left: s.Left, Right: rest},
			api.Sequent{Left: s.Left, Right: with(rest, z)},
			api.Sequent{Left: with(s.Left, f), Right: rest},
			api.Sequent{Left: s.Left, Right: with(s.Right, f)},
		)
	}
	return all
}

// TestOrderOfSides: sides may stand in any order, in End and in the Kids' Ends.
func TestOrderOfSides(t *testing.T) {
	for _, c := range []struct {
		intuit                bool
		rule, f, end, kids, x string
	}{
		{false, "and-l", "p & q", "a, p & q, b => c, d", "q, b, p, a => d, c", ""},
		{true, "and-l", "p & q", "p & q, a, p & q => c", "p & q, q, p, a => c", ""},
		{false, "and-r", "p & q", "a, b => c, p & q, d", "b, a => p, d, c", "a, b => d, c, q"},
		{false, "then-r", "p -> q", "a, b => p -> q, c", "p, b, a => q, c", ""},
		{true, "then-l", "p -> q", "a, p -> q, b => c", "b, a => p", "q, b, a => c"},
		{false, "then-l", "p -> q", "a, p -> q, b => c, d", "b, a => p, d, c", "q, b, a => d, c"},
		{false, "cut", "p", "a, p, b => c, p", "p, b, a => p, c, p", "p, a, p, b => p, c"},
		{true, "cut", "p", "a, p, b => p", "p, b, a => p", "p, a, p, b => p"},
		{false, "contr-r", "p", "a => p, b, c", "a => p, c, b, p", ""},
		{true, "weak", "", "a, p, b, p => c", "p, a, p => c", ""},
	} {
		kids := []string{c.kids}
		if c.x != "" {
			kids = append(kids, c.x)
		}
		p := step(t, c.rule, c.f, c.end, kids...)
		sameFault(t, c.rule+" of "+c.end, check(t, c.rule, p, c.intuit), passed(p))
	}
}

// TestRulesOfOneCalculus: a rule that is not there is ErrKind, whatever else is wrong with the step.
func TestRulesOfOneCalculus(t *testing.T) {
	names := "ax true false and-l and-r or-l then-r not-r contr-l weak"
	classic := strings.Fields(names + " or-r then-l not-l contr-r cut")
	intuit := strings.Fields(names + " or-r1 or-r2 then-l not-l cut")
	strange := []string{"", "AX", "ax ", " ax", "and", "or-r3", "not", "then", "weak-l", "weak-r", "contr", "Cut", "true-r", "false-l", "mix", "exch", "and-l1", "a\x00x", strings.Repeat("ax", 1<<16)}
	for _, rule := range slices.Concat(classic, intuit, strange) {
		for calculus, own := range map[string][]string{"classical": classic, "intuitionistic": intuit} {
			p := step(t, rule, "z", "r => s", "z => z", "z => z", "z => z")
			want := fault(api.ErrFalse, 0)
			switch {
			case !slices.Contains(own, rule):
				want = fault(api.ErrKind, 0)
			case rule == "weak":
				want = fault(api.ErrForm, 0)
			case rule == "cut":
				want = fault(api.ErrSize, 0)
			}
			what := calculus + " " + rule
			sameFault(t, what, check(t, what, p, calculus == "intuitionistic"), want)
		}
	}
}

func TestWeak(t *testing.T) {
	for _, c := range []struct {
		intuit    bool
		end, kid  string
		isAllowed bool
	}{
		{true, "=>", "=>", true},
		{true, "p => q", "p => q", true},
		{true, "p => q", "=> q", true},
		{true, "p => q", "p =>", true},
		{true, "p => q", "=>", true},
		{true, "p, p, q => r", "p, q => r", true},
		{true, "p, p, q => r", "q, p, p => r", true},
		{true, "p, p, q => r", "p, p => r", true},
		{false, "p => q, q, r", "p => q, q", true},
		{false, "p => q, q, r", "=> r", true},
		{false, "p => q, q, r", "p => q, r, r", false},
		{false, "p => q, q, r", "p => q, q, q", false},
		{false, "p => q", "q => p", false},
		{true, "p => q", "p, p => q", false},
		{true, "p, q => q", "p, p => q", false},
		{true, "p => q", "p, q => q", false},
		{true, "p => q", "p => r", false},
		{true, "p => q", "r => q", false},
		{true, "=> q", "q =>", false},
		{true, "=>", "=> q", false},
		{true, "=>", "q =>", false},
		{true, "p & q => r", "p => r", false},
		{false, "p => q", "p => q, q", false},
		{true, "p => q", "p => q, q", false},
	} {
		p := step(t, "weak", "", c.end, c.kid)
		want := fault(api.ErrFalse, 0)
		if c.isAllowed {
			want = passed(p)
		}
		what := "weak: " + c.end + " of " + c.kid
		sameFault(t, what, check(t, what, p, c.intuit), want)
		for _, kids := range [][]api.Proof{nil, {}, {p.Kids[0], p.Kids[0]}, make([]api.Proof, 3)} {
			p.Kids = kids
			sameFault(t, what+", other number of Kids", check(t, what, p, c.intuit), fault(api.ErrSize, 0))
		}
	}
}

// TestWeakHasNoFormula: F is the zero formula, and no other one; a list without elements is as good as nil.
func TestWeakHasNoFormula(t *testing.T) {
	for calculus, intuit := range calculi() {
		p := step(t, "weak", "", "p => q", "p =>")
		p.F.Kids = []api.Formula{}
		sameFault(t, calculus, check(t, calculus, p, intuit), passed(p))
		p.F.Kids = []api.Formula{name("p")}[:0]
		sameFault(t, calculus, check(t, calculus, p, intuit), passed(p))
		for _, f := range []api.Formula{
			name("p"), node(api.FTrue), node(0, api.Formula{}), {Name: "p"}, {Kind: -1}, {Kind: 99}, endless(),
		} {
			p.F = f
			sameFault(t, calculus, check(t, calculus, p, intuit), fault(api.ErrForm, 0))
		}
	}
}
