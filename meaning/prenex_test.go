package meaning_test

import (
	"math/rand"
	"slices"
	"testing"

	"sequent/api"
	"sequent/first"
	"sequent/meaning"
)

// prenexed looks at all that is promised of Prenex, but values.
func prenexed(t *testing.T, e api.Expr) api.Expr {
	t.Helper()
	out, f := meaning.Prenex(e)
	if f != (api.Fault{}) || first.Check(out) != (api.Fault{}) {
		t.Fatalf("%s: %s, %v, Check says %v", text(e), text(out), f, first.Check(out))
	}
	inner := out
	for isQuantifier(inner) {
		inner = inner.Kids[0]
	}
	if quantifiersIn(inner) > 0 {
		t.Fatalf("%s: %s has quantifiers behind others than quantifiers", text(e), text(out))
	}
	if count(out) > count(e) {
		t.Fatalf("%s: %s has %d nodes more", text(e), text(out), count(out)-count(e))
	}
	free, symbols := freeIn(e), symbolsIn(e)
	for name := range freeIn(out) {
		if !free[name] {
			t.Fatalf("%s: in %s is %s free", text(e), text(out), name)
		}
	}
	for s := range symbolsIn(out) {
		if !symbols[s] {
			t.Fatalf("%s: %s has %v", text(e), text(out), s)
		}
	}
	return out
}

// allGiven goes through all values of the variables.
func allGiven(n int, names []string, g *given) func(yield func(g *given) bool) {
	return func(yield func(g *given) bool) {
		if len(names) == 0 {
			yield(g)
			return
		}
		for value := range n {
			for whole := range allGiven(n, names[1:], &given{names[0], value, g}) {
				if !yield(whole) {
					return
				}
			}
		}
	}
}

// sameValues holds two expressions against each other in s, for all values of the variables.
func sameValues(t *testing.T, s api.Structure, e, out api.Expr, names ...string) {
	t.Helper()
	for g := range allGiven(s.N, names, nil) {
		if want := isTrue(&s, &e, g); isTrue(&s, &out, g) != want {
			t.Fatalf("%s is %v, and %s is not, in %v", text(e), want, text(out), s)
		}
	}
}

// listed are all structures of so many things, as a list.
func listed(n int, symbols ...symbol) []api.Structure {
	return slices.Collect(withMeanings(api.Structure{N: n}, symbols))
}

func TestPrenexExamples(t *testing.T) {
	structures := slices.Concat(
		listed(1, symbol{"Q", 0, false}, symbol{"P", 1, false}, symbol{"R", 2, false}, symbol{"C", 0, true}),
		listed(2, symbol{"Q", 0, false}, symbol{"P", 1, false}, symbol{"R", 2, false}, symbol{"C", 0, true}),
	)
	for _, s := range []string{
		"1", "0", "Q", "P(x)", "x = y", "~P(C)", "!x P(x)", "?x P(x)", "!x Q", "~!x P(x)", "~?x P(x)", "~~!x P(x)", "~!x ~?y R(x, y)",
		"!x P(x) & Q", "!x P(x) | Q", "!x P(x) -> Q", "?x P(x) & Q", "?x P(x) | Q", "?x P(x) -> Q",
		"Q & !x P(x)", "Q | !x P(x)", "Q -> !x P(x)", "Q & ?x P(x)", "Q | ?x P(x)", "Q -> ?x P(x)",
		"!x P(x) & !x P(x)", "!x P(x) | !x P(x)", "!x P(x) -> !x P(x)", "?x P(x) & ?x P(x)", "?x P(x) | ?x P(x)", "?x P(x) -> ?x P(x)",
		"!x P(x) & ?x P(x)", "!x P(x) | ?x P(x)", "!x P(x) -> ?x P(x)", "?x P(x) & !x P(x)", "?x P(x) | !x P(x)", "?x P(x) -> !x P(x)",
		"P(x) & !x P(x)", "P(x) -> !x P(x)", "!x P(x) -> P(x)", "?x P(x) & P(x)", "P(x) & ?x ~P(x)", "?y R(x, y) & ?x R(x, y)",
		"!x (P(x) & ?x P(x))", "!x (?x P(x) & P(x))", "!x (P(x) -> !x P(x))", "?x (P(x) -> !x P(x))", "!x !x P(x)", "!x ?x P(x)", "?x !x P(x)",
		"!x ?y R(x, y) -> ?y !x R(x, y)", "?y !x R(x, y) -> !x ?y R(x, y)", "(!x P(x) -> !x ?y R(x, y)) -> !y P(y)",
		"((!x P(x) -> Q) -> ?x P(x)) -> P(x)", "~(!x P(x) -> ~?x (P(x) -> !y R(x, y)))", "!x (P(x) | !y (R(x, y) & ?x R(y, x)))",
		"!a P(a) & !b P(b) & P(a) & P(b) & P(c)", "!y R(x, y) | ?x R(x, y)", "!x R(x, y) & !y R(x, y)",
		"?a (P(a) & P(b)) & ?a (P(a) & P(c)) & ?b (P(b) & P(a))",
	} {
		e := read(t, s)
		out := prenexed(t, e)
		for _, structure := range structures {
			sameValues(t, structure, e, out, "x", "y", "a", "b", "c")
		}
	}
}

// TestPrenexLeavesWhatIsSo: an expression whose quantifiers are ahead, each with a variable of its own, is answered as it is.
func TestPrenexLeavesWhatIsSo(t *testing.T) {
	for s, want := range map[string]string{
		"~!x P(x)": "?x ~P(x)", "!x ?y R(x, y)": "!x ?y R(x, y)", "P(x) & Q -> x = F(y)": "P(x) & Q -> x = F(y)", "?x !y (P(x) | R(x, z))": "?x !y (P(x) | R(x, z))",
	} {
		if got := text(prenexed(t, read(t, s))); got != want {
			t.Errorf("%s: %s, want %s", s, got, want)
		}
	}
}

// TestPrenexOfAllSmallExpressions: in all structures of up to three things with one predicate.
func TestPrenexOfAllSmallExpressions(t *testing.T) {
	structures := slices.Concat(listed(1, symbol{"P", 1, false}), listed(2, symbol{"P", 1, false}), listed(3, symbol{"P", 1, false}))
	for nodes := 2; nodes <= 7; nodes++ {
		for _, e := range small(nodes, pred("P", word("x")), pred("P", word("y"))) {
			out := prenexed(t, e)
			for _, s := range structures {
				sameValues(t, s, e, out, "x", "y")
			}
		}
	}
}

// TestPrenexOfTwoSides: each sign, below nots or not, with two quantifiers at each side, of variables that are also free, or bound at the other side.
func TestPrenexOfTwoSides(t *testing.T) {
	structures := slices.Concat(listed(1, symbol{"R", 2, false}), listed(2, symbol{"R", 2, false}))
	r := func(a, b string) api.Expr { return pred("R", words(a, b)...) }
	var sides []api.Expr
	for _, outer := range []string{"x", "y"} {
		for _, inner := range []string{"x", "y", "z"} {
			for kinds := range 4 {
				sides = append(sides, below([]string{outer, inner}, r("x", "y"), api.EAll+kinds/2, api.EAll+kinds%2))
			}
		}
	}
	for _, a := range sides {
		for _, b := range sides {
			for kind := api.EAnd; kind <= api.EThen; kind++ {
				for _, e := range []api.Expr{node(kind, a, b), not(node(kind, not(a), b)), some("y", node(kind, a, b))} {
					out := prenexed(t, e)
					for _, s := range structures {
						sameValues(t, s, e, out, "x", "y")
					}
				}
			}
		}
	}
}

func TestPrenexByChance(t *testing.T) {
	chance := rand.New(rand.NewSource(5))
	looked, turned := 0, 0
	for range 12000 {
		e := byChance(chance, 1+chance.Intn(7), "x", "y", "z")
		if count(e) > api.MaxNodes {
			continue
		}
		out := prenexed(t, e)
		if n := quantifiersIn(e); n > 6 || n < 2 {
			continue
		}
		looked++
		if text(out) != text(e) {
			turned++
		}
		for n := 1; n <= 3; n++ {
			sameValues(t, meanings(chance, n, vocabulary()...), e, out, "x", "y", "z")
		}
	}
	if looked < 2000 || turned < 1500 {
		t.Errorf("%d were looked at, of which %d were not so", looked, turned)
	}
}

// TestPrenexOfMostNodes: as many quantifiers as there can be, in one another and side by side, below all signs.
func TestPrenexOfMostNodes(t *testing.T) {
	sides, chain := some("x", pred("P", word("x"))), pred("P", word("x"))
	for count(sides) <= api.MaxNodes-4 {
		sides = then(all("x", pred("P", word("x"))), sides)
	}
	for range 98 {
		chain = not(all("x", chain))
	}
	for what, e := range map[string]api.Expr{
		"in one another": below(letters(api.MaxNodes-1), pred("Q"), api.EAll, api.ESome),
		"of one name":    below(slices.Repeat([]string{"x"}, api.MaxNodes-2), pred("P", word("x")), api.EAll, api.ESome),
		"side by side":   sides,
		"in nots":        chain,
		"no quantifiers": nots(api.MaxNodes-1, pred("Q")),
		"a deep word":    all("x", same(nested(96, word("x")), nested(99, word("y")))),
	} {
		out := prenexed(t, e)
		if quantifiersIn(out) != quantifiersIn(e) {
			t.Errorf("%s: %d quantifiers, want %d", what, quantifiersIn(out), quantifiersIn(e))
		}
		for n := 1; n <= 2; n++ {
			for _, s := range listed(n, symbol{"P", 1, false}, symbol{"F", 1, true}, symbol{"Q", 0, false}) {
				if quantifiersIn(e) < 10 || n == 1 {
					sameValues(t, s, e, out, "x", "y")
				}
			}
		}
	}
}

// TestPrenexAmongManyNames: new names are none of those that are free, or bound further on.
func TestPrenexAmongManyNames(t *testing.T) {
	free := pred("P", words(letters(26)...)...)
	e := free
	for _, name := range letters(30) {
		e = and(all(name, pred("R", words(name, "a")...)), e)
	}
	out := prenexed(t, e)
	names := map[string]bool{}
	for isQuantifier(out) {
		if names[out.Name] || slices.Contains(letters(26), out.Name) {
			t.Errorf("%s is taken", out.Name)
		}
		names[out.Name], out = true, out.Kids[0]
	}
	if len(names) != 30 {
		t.Errorf("%d quantifiers", len(names))
	}
}
