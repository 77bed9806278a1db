package syntax_test

import (
	"slices"
	"strconv"
	"strings"
	"testing"

	"sequent/api"
	"sequent/syntax"
)

func word(name string, args ...api.Word) api.Word { return api.Word{Name: name, Args: args} }

func node(kind int, name string, words []api.Word, kids ...api.Expr) api.Expr {
	return api.Expr{Kind: kind, Name: name, Words: words, Kids: kids}
}

// sample is !x (R(F(x), y) & ?y x = C) -> P(y)
func sample() api.Expr {
	r := node(api.EPred, "R", []api.Word{word("F", word("x")), word("y")})
	same := node(api.ESame, "", []api.Word{word("x"), word("C")})
	all := node(api.EAll, "x", nil, node(api.EAnd, "", nil, r, node(api.ESome, "y", nil, same)))
	return node(api.EThen, "", nil, all, node(api.EPred, "P", []api.Word{word("y")}))
}

func TestExpressionsAreVisitedWithWhatIsBound(t *testing.T) {
	var got []string
	syntax.EachExpr(sample(), func(e api.Expr, bound []string) {
		got = append(got, strconv.Itoa(e.Kind)+e.Name+":"+strings.Join(bound, ","))
	})
	want := []string{"8:", "9x:", "6:x", "1R:x", "10y:x", "2:x,y", "1P:"}
	if !slices.Equal(got, want) {
		t.Errorf("%q, want %q", got, want)
	}
}

func TestWordsAreVisitedAheadOfTheirArgs(t *testing.T) {
	l := []api.Word{word("F", word("G", word("x"), word("C")), word("y")), word("z")}
	var got []string
	syntax.EachWord(l, func(w api.Word) { got = append(got, w.Name) })
	if want := []string{"F", "G", "x", "C", "y", "z"}; !slices.Equal(got, want) {
		t.Errorf("%q, want %q", got, want)
	}
	if got, want := syntax.Variables(append(l, word("x"))...), []string{"x", "y", "z", "x"}; !slices.Equal(got, want) {
		t.Errorf("%q, want %q", got, want)
	}
	if n := syntax.WordsSize(l...); n != 6 {
		t.Errorf("%d nodes", n)
	}
}

func TestAllOfAnExpression(t *testing.T) {
	if got, want := syntax.AllVariables(sample()), []string{"x", "x", "y", "y", "x", "y"}; !slices.Equal(got, want) {
		t.Errorf("%q, want %q", got, want)
	}
	if n := syntax.Size(sample()); n != 13 {
		t.Errorf("%d nodes", n)
	}
}

func TestQuantifiers(t *testing.T) {
	for kind := -1; kind < 13; kind++ {
		if syntax.IsQuantifier(kind) != (kind == api.EAll || kind == api.ESome) {
			t.Errorf("kind %d", kind)
		}
	}
}
