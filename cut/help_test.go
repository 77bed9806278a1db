package cut_test

import (
	"reflect"
	"slices"
	"strings"
	"testing"

	"sequent/api"
	"sequent/calculus"
	"sequent/classic"
	"sequent/cut"
	"sequent/formula"
	"sequent/kripke"
)

func fault(code, at int) api.Fault { return api.Fault{Code: code, At: at} }

func name(s string) api.Formula { return api.Formula{Kind: api.FVar, Name: s} }

func node(kind int, kids ...api.Formula) api.Formula {
	return api.Formula{Kind: kind, Kids: kids}
}

// nots is f below so many FNot.
func nots(n int, f api.Formula) api.Formula {
	for range n {
		f = node(api.FNot, f)
	}
	return f
}

// doubled joins f with itself so many times.
func doubled(kind, times int, f api.Formula) api.Formula {
	for range times {
		f = node(kind, f, f)
	}
	return f
}

// letters are names of one letter each.
func letters(n int) []api.Formula {
	var l []api.Formula
	for i := range n {
		l = append(l, name(string(rune('a'+i))))
	}
	return l
}

// calculi by what intuit is for each.
func calculi() map[string]bool {
	return map[string]bool{"classical": false, "intuitionistic": true}
}

func read(t *testing.T, text string) api.Formula {
	t.Helper()
	f, e := formula.Parse(text)
	if e != (api.Fault{}) {
		t.Fatalf("Parse(%q): %v", text, e)
	}
	return f
}

// readAll reads formulas with commas between them; none in "".
func readAll(t *testing.T, text string) (l []api.Formula) {
	t.Helper()
	for one := range strings.SplitSeq(text, ",") {
		if strings.TrimSpace(one) != "" {
			l = append(l, read(t, one))
		}
	}
	return l
}

// sequent reads one such as p, q => r.
func sequent(t *testing.T, text string) api.Sequent {
	t.Helper()
	left, right, found := strings.Cut(text, "=>")
	if !found {
		t.Fatalf("%q is no sequent", text)
	}
	return api.Sequent{Left: readAll(t, left), Right: readAll(t, right)}
}

// proof reads F and End of a step over Kids.
func proof(t *testing.T, rule, f, end string, kids ...api.Proof) api.Proof {
	t.Helper()
	p := api.Proof{Rule: rule, End: sequent(t, end), Kids: kids}
	if f != "" {
		p.F = read(t, f)
	}
	return p
}

// with is l and more, in a new list.
func with(l []api.Formula, more ...api.Formula) []api.Formula { return slices.Concat(l, more) }

// but is l without the formula at a place, in a new list.
func but(l []api.Formula, at int) []api.Formula { return slices.Concat(l[:at], l[at+1:]) }

func axiom(f api.Formula, end api.Sequent) api.Proof {
	return api.Proof{Rule: "ax", F: f, End: end}
}

func weakened(end api.Sequent, p api.Proof) api.Proof {
	return api.Proof{Rule: "weak", End: end, Kids: []api.Proof{p}}
}

// cutPremises are those of a cut of f to end.
func cutPremises(f api.Formula, end api.Sequent, intuit bool) (first, second api.Sequent) {
	first = api.Sequent{Left: end.Left, Right: with(end.Right, f)}
	if intuit {
		first.Right = []api.Formula{f}
	}
	return first, api.Sequent{Left: with(end.Left, f), Right: end.Right}
}

// found is a proof without cut of s that a layer above finds, if it does.
func found(s api.Sequent, intuit bool) (p api.Proof, valid bool) {
	if intuit {
		p, _, valid, _ = kripke.Prove(s)
	} else {
		p, _, valid, _ = classic.Prove(s)
	}
	return p, valid
}

// foundCut is a cut of f to end over proofs that are found, if they are.
func foundCut(f api.Formula, end api.Sequent, intuit bool) (p api.Proof, valid bool) {
	one, two := cutPremises(f, end, intuit)
	first, isFirst := found(one, intuit)
	second, isSecond := found(two, intuit)
	return api.Proof{Rule: "cut", F: f, End: end, Kids: []api.Proof{first, second}}, isFirst && isSecond
}

func text(f api.Formula) string {
	s, _ := formula.Print(f)
	return s
}

// texts are the formulas of a side as Print writes them, rising.
func texts(l []api.Formula) []string {
	out := []string{}
	for _, f := range l {
		out = append(out, text(f))
	}
	slices.Sort(out)
	return out
}

func told(s api.Sequent) string {
	return strings.Join(texts(s.Left), ", ") + " => " + strings.Join(texts(s.Right), ", ")
}

// stepsOf are those of p, each ahead of those in it.
func stepsOf(p api.Proof) []api.Proof {
	all := []api.Proof{p}
	for _, k := range p.Kids {
		all = append(all, stepsOf(k)...)
	}
	return all
}

// stepAt is the place of a step in p, by its number.
func stepAt(p *api.Proof, at *int) *api.Proof {
	if *at == 0 {
		return p
	}
	*at--
	for i := range p.Kids {
		if found := stepAt(&p.Kids[i], at); found != nil {
			return found
		}
	}
	return nil
}

func cutsIn(p api.Proof) int {
	n := 0
	for _, s := range stepsOf(p) {
		if s.Rule == "cut" {
			n++
		}
	}
	return n
}

// nodesOf are the formulas at the nodes of those of a list.
func nodesOf(l []api.Formula) (all []api.Formula) {
	for _, f := range l {
		all = append(append(all, f), nodesOf(f.Kids)...)
	}
	return all
}

func nodesIn(s api.Sequent) []api.Formula { return nodesOf(with(s.Left, s.Right...)) }

// partsIn are the formulas at the nodes of those of s, each once, as Print writes them.
func partsIn(s api.Sequent) map[string]bool {
	all := map[string]bool{}
	for _, f := range nodesIn(s) {
		all[text(f)] = true
	}
	return all
}

// mayBeMuch: may ErrMuch be told of a proof of s?
func mayBeMuch(s api.Sequent, intuit bool) bool {
	if intuit {
		return len(partsIn(s)) > 8
	}
	return len(nodesIn(s)) > 25
}

// eliminated asks Eliminate of a proof, and looks at all that it may answer. It tells whether the answer is ErrMuch, too.
func eliminated(t *testing.T, p api.Proof, intuit bool) (q api.Proof, much bool) {
	t.Helper()
	if e := calculus.Check(p, intuit); e != (api.Fault{}) {
		t.Fatalf("%s: the proof is none: %v", told(p.End), e)
	}
	q, f := cut.Eliminate(p, intuit)
	if f == fault(api.ErrMuch, 0) && mayBeMuch(p.End, intuit) {
		isNothing(t, told(p.End), q)
		return q, true
	}
	if f != (api.Fault{}) {
		t.Fatalf("%s: fault %v", told(p.End), f)
	}
	isWithoutCut(t, q, p.End, intuit)
	return q, false
}

func isNothing(t *testing.T, what string, q api.Proof) {
	t.Helper()
	if !reflect.DeepEqual(q, api.Proof{}) {
		t.Errorf("%s: a proof beside a fault", what)
	}
}

// isWithoutCut looks that q is a proof without cut of end, all of whose formulas stand at end's nodes.
func isWithoutCut(t *testing.T, q api.Proof, end api.Sequent, intuit bool) {
	t.Helper()
	if e := calculus.Check(q, intuit); e != (api.Fault{}) {
		t.Fatalf("%s: what is answered is no proof: %v", told(end), e)
	}
	if n := cutsIn(q); n != 0 {
		t.Fatalf("%s: %d cuts are left", told(end), n)
	}
	if !slices.Equal(texts(q.End.Left), texts(end.Left)) || !slices.Equal(texts(q.End.Right), texts(end.Right)) {
		t.Fatalf("%s: the proof is of %s", told(end), told(q.End))
	}
	parts := partsIn(end)
	isElsewhere := func(f api.Formula) bool { return !parts[text(f)] }
	for _, s := range stepsOf(q) {
		if slices.ContainsFunc(with(s.End.Left, s.End.Right...), isElsewhere) {
			t.Fatalf("%s: has a step with %s", told(end), told(s.End))
		}
		if s.Rule == "weak" && !reflect.DeepEqual(s.F, api.Formula{}) || s.Rule != "weak" && isElsewhere(s.F) {
			t.Fatalf("%s: has a step by %s of %v", told(end), s.Rule, s.F)
		}
	}
}

// refused looks that Measure and Eliminate tell just this fault.
func refused(t *testing.T, what string, p api.Proof, intuit bool, want api.Fault) {
	t.Helper()
	steps, deep, rank, f := cut.Measure(p, intuit)
	if f != want || steps != 0 || deep != 0 || rank != 0 {
		t.Errorf("%s: Measure: %d, %d, %d, %v, want %v", what, steps, deep, rank, f, want)
	}
	refusedEliminating(t, what, p, intuit, want)
}

// refusedEliminating looks at Eliminate alone.
func refusedEliminating(t *testing.T, what string, p api.Proof, intuit bool, want api.Fault) {
	t.Helper()
	q, f := cut.Eliminate(p, intuit)
	if f != want {
		t.Errorf("%s: Eliminate: %v, want %v", what, f, want)
	}
	isNothing(t, what, q)
}
