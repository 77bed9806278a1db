package classic_test

import (
	"reflect"
	"slices"
	"strings"
	"testing"

	"sequent/api"
	"sequent/calculus"
	"sequent/classic"
	"sequent/formula"
)

func fault(code, at int) api.Fault { return api.Fault{Code: code, At: at} }

func name(s string) api.Formula { return api.Formula{Kind: api.FVar, Name: s} }

func node(kind int, kids ...api.Formula) api.Formula {
	return api.Formula{Kind: kind, Kids: kids}
}

// joined groups to the left.
func joined(kind int, l ...api.Formula) api.Formula {
	f := l[0]
	for _, g := range l[1:] {
		f = node(kind, f, g)
	}
	return f
}

// nots is f below so many FNot.
func nots(n int, f api.Formula) api.Formula {
	for range n {
		f = node(api.FNot, f)
	}
	return f
}

// numbered is a name of three letters, another for each number.
func numbered(n int) api.Formula {
	return name(string([]byte{byte('a' + n/676%26), byte('a' + n/26%26), byte('a' + n%26)}))
}

func read(t *testing.T, text string) api.Formula {
	t.Helper()
	f, e := formula.Parse(text)
	if e != (api.Fault{}) {
		t.Fatalf("Parse(%q): %v", text, e)
	}
	return f
}

// sequent reads one such as p, q => r.
func sequent(t *testing.T, text string) api.Sequent {
	t.Helper()
	side := func(text string) (l []api.Formula) {
		for one := range strings.SplitSeq(text, ",") {
			if strings.TrimSpace(one) != "" {
				l = append(l, read(t, one))
			}
		}
		return l
	}
	left, right, found := strings.Cut(text, "=>")
	if !found {
		t.Fatalf("%q is no sequent", text)
	}
	return api.Sequent{Left: side(left), Right: side(right)}
}

// texts are the formulas of a side as Print writes them, rising.
func texts(l []api.Formula) []string {
	out := []string{}
	for _, f := range l {
		text, _ := formula.Print(f)
		out = append(out, text)
	}
	slices.Sort(out)
	return out
}

func told(s api.Sequent) string {
	return strings.Join(texts(s.Left), ", ") + " => " + strings.Join(texts(s.Right), ", ")
}

func nodesOf(l []api.Formula) int {
	n := len(l)
	for _, f := range l {
		n += nodesOf(f.Kids)
	}
	return n
}

func nodesIn(s api.Sequent) int { return nodesOf(s.Left) + nodesOf(s.Right) }

// isTrue is the second reckoning of what the program takes from elsewhere.
func isTrue(f api.Formula, holds []string) bool {
	switch f.Kind {
	case api.FVar:
		return slices.Contains(holds, f.Name)
	case api.FNot:
		return !isTrue(f.Kids[0], holds)
	case api.FAnd:
		return isTrue(f.Kids[0], holds) && isTrue(f.Kids[1], holds)
	case api.FOr:
		return isTrue(f.Kids[0], holds) || isTrue(f.Kids[1], holds)
	case api.FThen:
		return !isTrue(f.Kids[0], holds) || isTrue(f.Kids[1], holds)
	}
	return f.Kind == api.FTrue
}

// speaksAgainst: are all of Left true where just these names are, and none of Right?
func speaksAgainst(s api.Sequent, holds []string) bool {
	isHeld := func(f api.Formula) bool { return isTrue(f, holds) }
	isNot := func(f api.Formula) bool { return !isTrue(f, holds) }
	return !slices.ContainsFunc(s.Left, isNot) && !slices.ContainsFunc(s.Right, isHeld)
}

func namesOf(s api.Sequent) []string {
	var all []string
	for _, f := range slices.Concat(s.Left, s.Right) {
		names, _ := formula.Names(f)
		all = append(all, names...)
	}
	slices.Sort(all)
	return slices.Compact(all)
}

// isValid looks at all rows.
func isValid(s api.Sequent) bool {
	names := namesOf(s)
	for row := range 1 << len(names) {
		var holds []string
		for i, name := range names {
			if row>>i&1 == 1 {
				holds = append(holds, name)
			}
		}
		if speaksAgainst(s, holds) {
			return false
		}
	}
	return true
}

// proved asks Prove, and looks at all that it may answer, but whether valid is right. It tells whether the answer is ErrMuch, too.
func proved(t *testing.T, s api.Sequent) (p api.Proof, counter []string, valid, much bool) {
	t.Helper()
	p, counter, valid, f := classic.Prove(s)
	switch {
	case f == fault(api.ErrMuch, 0):
		if nodesIn(s) <= 25 {
			t.Fatalf("%s: ErrMuch of %d nodes", told(s), nodesIn(s))
		}
		isNothing(t, told(s), p, counter, valid)
		return p, counter, false, true
	case f != api.Fault{}:
		t.Fatalf("%s: fault %v", told(s), f)
	case valid:
		isProofOf(t, p, s)
		if len(counter) != 0 {
			t.Fatalf("%s: it is valid, and %v speak against it", told(s), counter)
		}
	default:
		isCounter(t, counter, s)
		if !reflect.DeepEqual(p, api.Proof{}) {
			t.Fatalf("%s: it is not valid, and has a proof", told(s))
		}
	}
	return p, counter, valid, false
}

func isNothing(t *testing.T, what string, p api.Proof, counter []string, valid bool) {
	t.Helper()
	if !reflect.DeepEqual(p, api.Proof{}) || len(counter) != 0 || valid {
		t.Errorf("%s: %v, %q, %v beside a fault", what, p, counter, valid)
	}
}

func isProofOf(t *testing.T, p api.Proof, s api.Sequent) {
	t.Helper()
	if cuts, e := calculus.Cuts(p, false); e != (api.Fault{}) || cuts != 0 {
		t.Fatalf("%s: of the proof is said %v, it has %d cuts", told(s), e, cuts)
	}
	if !slices.Equal(texts(p.End.Left), texts(s.Left)) || !slices.Equal(texts(p.End.Right), texts(s.Right)) {
		t.Fatalf("%s: the proof is of %s", told(s), told(p.End))
	}
}

func isCounter(t *testing.T, counter []string, s api.Sequent) {
	t.Helper()
	for i := range counter {
		if i > 0 && counter[i-1] >= counter[i] {
			t.Fatalf("%s: %q do not rise", told(s), counter)
		}
		if formula.Check(name(counter[i])) != (api.Fault{}) {
			t.Fatalf("%s: %q is no name", told(s), counter[i])
		}
	}
	if !speaksAgainst(s, counter) {
		t.Fatalf("%s: %q do not speak against it", told(s), counter)
	}
}

// decided holds the answer against all rows.
func decided(t *testing.T, s api.Sequent) {
	t.Helper()
	want := isValid(s)
	if _, _, valid, much := proved(t, s); !much && valid != want {
		t.Fatalf("%s: valid: %v, want %v", told(s), valid, want)
	}
}
