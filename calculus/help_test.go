package calculus_test

import (
	"slices"
	"strings"
	"testing"

	"sequent/api"
	"sequent/calculus"
	"sequent/formula"
	"sequent/truth"
)

func fault(code, at int) api.Fault { return api.Fault{Code: code, At: at} }

func name(s string) api.Formula { return api.Formula{Kind: api.FVar, Name: s} }

func node(kind int, kids ...api.Formula) api.Formula {
	return api.Formula{Kind: kind, Kids: kids}
}

// nots is f below so many FNot.
func nots(n int, f api.Formula) api.Formula {
	for range n {
		f = node(api.FNot, f)
	}
	return f
}

// endless holds itself.
func endless() api.Formula {
	kids := make([]api.Formula, 1)
	kids[0] = api.Formula{Kind: api.FNot, Kids: kids}
	return kids[0]
}

func read(t *testing.T, text string) api.Formula {
	t.Helper()
	f, e := formula.Parse(text)
	if e != (api.Fault{}) {
		t.Fatalf("Parse(%q): %v", text, e)
	}
	return f
}

// readAll reads formulas with commas between them; none in "".
func readAll(t *testing.T, text string) []api.Formula {
	t.Helper()
	var l []api.Formula
	if strings.TrimSpace(text) != "" {
		for _, one := range strings.Split(text, ",") {
			l = append(l, read(t, one))
		}
	}
	return l
}

// sequent reads one such as p, q => r.
func sequent(t *testing.T, text string) api.Sequent {
	t.Helper()
	left, right, found := strings.Cut(text, "=>")
	if !found {
		t.Fatalf("%q is no sequent", text)
	}
	return api.Sequent{Left: readAll(t, left), Right: readAll(t, right)}
}

// step has Kids without a rule: what is said of them, ErrKind at 1, is said only where nothing is said of the step.
func step(t *testing.T, rule, f, end string, kids ...string) api.Proof {
	t.Helper()
	p := api.Proof{Rule: rule, End: sequent(t, end)}
	if f != "" {
		p.F = read(t, f)
	}
	for _, k := range kids {
		p.Kids = append(p.Kids, api.Proof{End: sequent(t, k)})
	}
	return p
}

// passed is what is said of step, if it is right.
func passed(p api.Proof) api.Fault {
	if len(p.Kids) == 0 {
		return api.Fault{}
	}
	return fault(api.ErrKind, 1)
}

// proof is whole: its Kids are proofs.
func proof(t *testing.T, rule, f, end string, kids ...api.Proof) api.Proof {
	t.Helper()
	p := step(t, rule, f, end)
	p.Kids = kids
	return p
}

func sameFault(t *testing.T, what string, got, want api.Fault) {
	t.Helper()
	if got != want {
		t.Errorf("%s: fault %v, want %v", what, got, want)
	}
}

// check asks Check and Cuts, which must say the same.
func check(t *testing.T, what string, p api.Proof, intuit bool) api.Fault {
	t.Helper()
	e := calculus.Check(p, intuit)
	n, other := calculus.Cuts(p, intuit)
	sameFault(t, what+": Cuts beside Check", other, e)
	if e.Code != api.OK && n != 0 {
		t.Errorf("%s: %d cuts beside the fault %v", what, n, e)
	}
	if e.Code == api.OK && n != cutsIn(p) {
		t.Errorf("%s: %d cuts, want %d", what, n, cutsIn(p))
	}
	return e
}

func cutsIn(p api.Proof) int {
	n := 0
	if p.Rule == "cut" {
		n = 1
	}
	for _, k := range p.Kids {
		n += cutsIn(k)
	}
	return n
}

// calculi by what intuit is for each.
func calculi() map[string]bool {
	return map[string]bool{"classical": false, "intuitionistic": true}
}

// texts are the formulas of a side as Print writes them, rising.
func texts(t *testing.T, l []api.Formula) []string {
	t.Helper()
	out := []string{}
	for _, f := range l {
		text, e := formula.Print(f)
		if e != (api.Fault{}) {
			t.Fatalf("Print: %v", e)
		}
		out = append(out, text)
	}
	slices.Sort(out)
	return out
}

func told(t *testing.T, s api.Sequent) string {
	t.Helper()
	return strings.Join(texts(t, s.Left), ", ") + " => " + strings.Join(texts(t, s.Right), ", ")
}

// isTrue: where just these names are true, is one of Right, or is one of Left false?
func isTrue(t *testing.T, s api.Sequent, holds []string) bool {
	t.Helper()
	value := func(f api.Formula) bool {
		is, e := truth.Value(f, holds)
		if e != (api.Fault{}) {
			t.Fatalf("Value: %v", e)
		}
		return is
	}
	return slices.ContainsFunc(s.Right, value) || !allOf(s.Left, value)
}

func allOf(l []api.Formula, is func(api.Formula) bool) bool {
	for _, f := range l {
		if !is(f) {
			return false
		}
	}
	return true
}

// rowsOf are all ways in which some of the names are true.
func rowsOf(names ...string) [][]string {
	rows := make([][]string, 1<<len(names))
	for i := range rows {
		for j, s := range names {
			if i>>j&1 == 1 {
				rows[i] = append(rows[i], s)
			}
		}
	}
	return rows
}
