package formula_test

import (
	"strings"
	"testing"

	"sequent/api"
	"sequent/formula"
)

func printed(t *testing.T, f api.Formula) string {
	t.Helper()
	s, e := formula.Print(f)
	if e != (api.Fault{}) {
		t.Fatalf("Print of %s: %v", told(f), e)
	}
	return s
}

func TestPrint(t *testing.T) {
	p, q := name("p"), name("q")
	for want, f := range map[string]api.Formula{
		"abcdefgh":          name("abcdefgh"),
		"1":                 node(api.FTrue),
		"0":                 node(api.FFalse),
		"~[]<>p":            node(api.FNot, node(api.FBox, node(api.FDia, p))),
		"~~p":               node(api.FNot, node(api.FNot, p)),
		"p & q":             node(api.FAnd, p, q),
		"p | q":             node(api.FOr, p, q),
		"p -> q":            node(api.FThen, p, q),
		"(p -> q) -> p":     node(api.FThen, node(api.FThen, p, q), p),
		"p -> q -> p":       node(api.FThen, p, node(api.FThen, q, p)),
		"p & q & p":         node(api.FAnd, node(api.FAnd, p, q), p),
		"p & (q & p)":       node(api.FAnd, p, node(api.FAnd, q, p)),
		"p | q | p":         node(api.FOr, node(api.FOr, p, q), p),
		"p | (q | p)":       node(api.FOr, p, node(api.FOr, q, p)),
		"p & q | q & p":     node(api.FOr, node(api.FAnd, p, q), node(api.FAnd, q, p)),
		"(p | q) & (q | p)": node(api.FAnd, node(api.FOr, p, q), node(api.FOr, q, p)),
		"(p -> q) & p":      node(api.FAnd, node(api.FThen, p, q), p),
		"p | (q -> p)":      node(api.FOr, p, node(api.FThen, q, p)),
		"p | q -> q & p":    node(api.FThen, node(api.FOr, p, q), node(api.FAnd, q, p)),
		"~(p & q)":          node(api.FNot, node(api.FAnd, p, q)),
		"[](p | q)":         node(api.FBox, node(api.FOr, p, q)),
		"<>(p -> q)":        node(api.FDia, node(api.FThen, p, q)),
		"~p & []q":          node(api.FAnd, node(api.FNot, p), node(api.FBox, q)),
	} {
		if got := printed(t, f); got != want {
			t.Errorf("Print of %s: %q, want %q", told(f), got, want)
		}
	}
}

// formulas tells all with so many nodes, of one name, two signs ahead and three between.
func formulas(nodes int) []api.Formula {
	if nodes == 1 {
		return []api.Formula{name("p")}
	}
	var l []api.Formula
	for _, f := range formulas(nodes - 1) {
		l = append(l, node(api.FNot, f), node(api.FBox, f))
	}
	for left := 1; left < nodes-1; left++ {
		for _, f := range formulas(left) {
			for _, g := range formulas(nodes - 1 - left) {
				l = append(l, node(api.FAnd, f, g), node(api.FOr, f, g), node(api.FThen, f, g))
			}
		}
	}
	return l
}

func TestPrintOfAllSmallFormulas(t *testing.T) {
	for nodes := range 8 {
		if nodes == 0 {
			continue
		}
		for _, f := range formulas(nodes) {
			s := printed(t, f)
			if g, e := formula.Parse(s); e != (api.Fault{}) || !isSame(g, f) {
				t.Fatalf("Parse of %q: %s %v, want %s", s, told(g), e, told(f))
			}
			needsItsBrackets(t, s, f)
			hasItsBlanks(t, s)
		}
	}
}

func needsItsBrackets(t *testing.T, s string, f api.Formula) {
	t.Helper()
	var open []int
	for i := range len(s) {
		switch s[i] {
		case '(':
			open = append(open, i)
		case ')':
			from := open[len(open)-1]
			open = open[:len(open)-1]
			without := s[:from] + s[from+1:i] + s[i+1:]
			if g, e := formula.Parse(without); e == (api.Fault{}) && isSame(g, f) {
				t.Fatalf("%q has brackets too many: %q is the same", s, without)
			}
		}
	}
}

func hasItsBlanks(t *testing.T, s string) {
	t.Helper()
	bare := strings.ReplaceAll(s, " ", "")
	if want := strings.NewReplacer("->", " -> ", "|", " | ", "&", " & ").Replace(bare); s != want {
		t.Fatalf("%q, want its blanks as in %q", s, want)
	}
}

func TestPrintOfGreatestFormulas(t *testing.T) {
	left, right := name("abcdefgh"), name("abcdefgh")
	for range 66 {
		left = node(api.FThen, node(api.FBox, left), name("abcdefgh"))
		right = node(api.FAnd, name("abcdefgh"), node(api.FDia, right))
	}
	for _, f := range []api.Formula{left, right, nots(api.MaxNodes - 1)} {
		sameFormula(t, "Parse of Print", parse(t, printed(t, f)), f)
	}
}
