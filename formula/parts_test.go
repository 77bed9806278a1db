package formula_test

import (
	"reflect"
	"slices"
	"testing"

	"sequent/api"
	"sequent/formula"
)

func TestNames(t *testing.T) {
	for text, want := range map[string][]string{
		"p":                         {"p"},
		"1 -> []0":                  nil,
		"q & p -> ~(q & p)":         {"p", "q"},
		"b | ab | a | aa | z | abc": {"a", "aa", "ab", "abc", "b", "z"},
		"<>z -> [](zz & ~y)":        {"y", "z", "zz"},
		"p -> p -> p":               {"p"},
	} {
		got, e := formula.Names(parse(t, text))
		sameFault(t, text, e, api.Fault{})
		if !slices.Equal(got, want) {
			t.Errorf("Names of %q: %q, want %q", text, got, want)
		}
	}
}

func TestParts(t *testing.T) {
	for text, want := range map[string][]string{
		"p":                 {"p"},
		"p & p":             {"p & p", "p"},
		"q & p -> ~(q & p)": {"q & p -> ~(q & p)", "q & p", "q", "p", "~(q & p)"},
		"~p | (p -> ~p)":    {"~p | (p -> ~p)", "~p", "p", "p -> ~p"},
		"p & q | q & p":     {"p & q | q & p", "p & q", "p", "q", "q & p"},
		"[]p -> <>p":        {"[]p -> <>p", "[]p", "p", "<>p"},
		"1 & 0 | (0 | 1)":   {"1 & 0 | (0 | 1)", "1 & 0", "1", "0", "0 | 1"},
		"p | (q | p)":       {"p | (q | p)", "p", "q | p", "q"},
		"ab & (a & b)":      {"ab & (a & b)", "ab", "a & b", "a", "b"},
	} {
		got, e := formula.Parts(parse(t, text))
		sameFault(t, text, e, api.Fault{})
		var texts []string
		for _, f := range got {
			texts = append(texts, printed(t, f))
		}
		if !reflect.DeepEqual(texts, want) {
			t.Errorf("Parts of %q: %q, want %q", text, texts, want)
		}
	}
}

func TestPartsTakesNoKidsAndEmptyKidsForTheSame(t *testing.T) {
	f := node(api.FAnd, name("p"), api.Formula{Kind: api.FVar, Name: "p", Kids: []api.Formula{}})
	if got, _ := formula.Parts(f); len(got) != 2 {
		t.Errorf("%d parts, want 2", len(got))
	}
}

func TestPartsOfGreatestFormula(t *testing.T) {
	got, e := formula.Parts(nots(api.MaxNodes - 1))
	sameFault(t, "all differ", e, api.Fault{})
	if len(got) != api.MaxNodes {
		t.Fatalf("%d parts, want %d", len(got), api.MaxNodes)
	}
	for i, f := range got {
		sameFormula(t, "part", f, nots(api.MaxNodes-1-i))
	}
}
