package meaning_test

import (
	"cmp"
	"math/rand"
	"slices"
	"testing"

	"sequent/api"
	"sequent/first"
	"sequent/meaning"
)

const mostNodes = 5 * api.MaxNodes

// skolemized looks at all that is promised of Skolem, but meanings; it answers the other names, too. If it is too much, out is zero.
func skolemized(t *testing.T, e api.Expr) (out api.Expr, others []symbol) {
	t.Helper()
	out, f := meaning.Skolem(e)
	if f == fault(api.ErrMuch, 0) && quantifiersIn(e) > 5 && isZero(out) {
		return out, nil
	}
	if f != (api.Fault{}) || count(out) > mostNodes {
		t.Fatalf("%s: %d nodes, %v", text(e), count(out), f)
	}
	inner := out
	for inner.Kind == api.EAll {
		inner = inner.Kids[0]
	}
	if quantifiersIn(inner) > 0 || len(freeIn(out)) > 0 {
		t.Fatalf("%s: %s is not in its form", text(e), text(out))
	}
	if count(out) <= api.MaxNodes && first.Check(out) != (api.Fault{}) {
		t.Fatalf("%s: %s: Check says %v", text(e), text(out), first.Check(out))
	}
	return out, othersIn(t, e, out)
}

// othersIn are the big names of out that e has not, by their names: functions alone, each with one number of places, and with no name of e's, whatever that is there.
func othersIn(t *testing.T, e, out api.Expr) []symbol {
	t.Helper()
	its, taken := symbolsIn(e), map[string]bool{}
	for s := range its {
		taken[s.name] = true
	}
	var l []symbol
	for s := range symbolsIn(out) {
		if its[s] {
			continue
		}
		if taken[s.name] || !s.isFun || !isBigName(s.name) {
			t.Fatalf("%s: %s has %v", text(e), text(out), s)
		}
		taken[s.name] = true
		l = append(l, s)
	}
	slices.SortFunc(l, func(a, b symbol) int { return cmp.Compare(a.name, b.name) })
	return l
}

// sameMeanings: e is true in s just if there are meanings for the others with which out is. It answers whether e is.
func sameMeanings(t *testing.T, s api.Structure, e, out api.Expr, others []symbol) bool {
	t.Helper()
	want, got := isTrue(&s, &e, nil), false
	for whole := range withMeanings(s, others) {
		if isTrue(&whole, &out, nil) {
			got = true
			break
		}
	}
	if got != want {
		t.Fatalf("%s is %v, and whether %s can be true is %v, in %v", text(e), want, text(out), got, s)
	}
	return want
}

func TestSkolemExamples(t *testing.T) {
	symbols := []symbol{{"Q", 0, false}, {"P", 1, false}, {"R", 2, false}}
	structures := slices.Concat(listed(1, symbols...), listed(2, symbols...))
	for _, s := range []string{
		"1", "0", "Q", "~Q", "!x P(x)", "?x P(x)", "!x Q", "?x Q", "~!x P(x)", "~?x P(x)", "~~?x P(x)", "~!x ~?y R(x, y)",
		"!x ?y R(x, y)", "?x !y R(x, y)", "?x ?y R(x, y)", "!x !y R(x, y)", "~!x ?y R(x, y)", "~?x !y R(x, y)", "~!x ~!y ~R(x, y)",
		"!x P(x) & ?x P(x)", "!x P(x) | ?x P(x)", "!x P(x) -> ?x P(x)", "?x P(x) & !x P(x)", "?x P(x) | !x P(x)", "?x P(x) -> !x P(x)",
		"?x P(x) & ?x ~P(x)", "?x P(x) | ?x P(x)", "?x P(x) -> ?x P(x)", "!x P(x) | !x ~P(x)", "!x P(x) -> !x P(x)", "!x P(x) & !x ~P(x)",
		"!x ?y (R(x, y) & ?x R(y, x))", "!x (P(x) -> ?y (R(x, y) & ~P(y)))", "!x (?x P(x) & P(x))", "?x (P(x) & ?x ~P(x))", "!x ?x P(x)", "?x !x P(x)",
		"!x ?y !z (R(x, y) | R(y, z))", "?x !y ?z (R(x, y) -> R(y, z))", "!x ?y ?z (R(x, y) & R(y, z))", "?x ?y (R(x, y) & !z (R(y, z) -> R(x, z)))",
		"!x ?y P(y)", "!x !y ?z P(z)", "!x !y ?z R(x, z)", "!x !y ?z R(y, z)", "!x ?y (R(x, y) & !x ?z (R(x, z) & ~R(y, z)))",
		"(!x ?y R(x, y) -> ?y !x R(x, y)) -> Q", "?y !x R(x, y) -> !x ?y R(x, y)", "!x ?y R(x, y) -> ?y !x R(x, y)", "((?x P(x) -> Q) -> !x P(x)) -> ?x ~P(x)",
		"!x ?y x = y", "?x !y x = y", "!x ?y ~x = y", "?x ?y ~x = y", "!x !y ?z (~x = z & ~y = z)",
	} {
		e := read(t, s)
		out, others := skolemized(t, e)
		for _, structure := range structures {
			sameMeanings(t, structure, e, out, others)
		}
	}
}

// TestSkolemWrites: functions of just what they hang on, with names as in the chapter.
func TestSkolemWrites(t *testing.T) {
	for s, want := range map[string]string{
		"!x ?y R(x, y)":                          "!x R(x, Sa(x))",
		"?x P(x)":                                "P(Sa)",
		"!x !y ?z (R(y, z) & P(z))":              "!x !y (R(y, Sa(y)) & P(Sa(y)))",
		"!x ?y !z ?w (R(x, y) & T(y, z, w))":     "!x !z (R(x, Sa(x)) & T(Sa(x), z, Sb(x, z)))",
		"~(!x P(x) & !x ~P(x))":                  "~(P(Sa) & ~P(Sb))",
		"!x P(x) | !x R(x, x)":                   "!x !a (P(x) | R(a, a))",
		"?x P(x) & Sa & Sc(Sb) = Sb & ?y Q(y)":   "P(Sd) & Sa & Sc(Sb) = Sb & Q(Se)",
		"!x (P(x) -> ?y (R(x, y) & ?z T(y, z)))": "!x (P(x) -> R(x, Sa(x)) & T(Sa(x), Sb(x)))",
	} {
		out, _ := skolemized(t, read(t, s))
		if text(out) != want {
			t.Errorf("%s: %s, want %s", s, text(out), want)
		}
	}
}

// TestSkolemOfAllSmallExpressions: of all that have no free variables, in all structures of up to three things with one predicate.
func TestSkolemOfAllSmallExpressions(t *testing.T) {
	unary := slices.Concat(listed(1, symbol{"P", 1, false}), listed(2, symbol{"P", 1, false}), listed(3, symbol{"P", 1, false}))
	binary := slices.Concat(listed(1, symbol{"R", 2, false}), listed(2, symbol{"R", 2, false}))
	trues, looked := 0, 0
	for _, c := range []struct {
		structures []api.Structure
		most       int
		leaves     []api.Expr
	}{
		{unary, 7, []api.Expr{pred("P", word("x")), pred("P", word("y"))}},
		{binary, 8, []api.Expr{pred("R", words("x", "y")...), pred("R", words("y", "x")...)}},
	} {
		for nodes := range c.most + 1 {
			for _, e := range small(nodes, c.leaves...) {
				if len(freeIn(e)) > 0 {
					continue
				}
				out, others := skolemized(t, e)
				for _, s := range c.structures {
					looked++
					if sameMeanings(t, s, e, out, others) {
						trues++
					}
				}
			}
		}
	}
	if min(trues, looked-trues) < 1000 {
		t.Errorf("%d of %d are true", trues, looked)
	}
}

func TestSkolemByChance(t *testing.T) {
	chance := rand.New(rand.NewSource(6))
	looked, trues, functions := 0, 0, 0
	for range 20000 {
		e := closed(chance, byChance(chance, 1+chance.Intn(6), "x", "y", "z"))
		if count(e) > api.MaxNodes {
			continue
		}
		out, others := skolemized(t, e)
		for n := 1; n <= 3; n++ {
			// What a structure cannot have is not looked at here, nor what would take too long.
			if isZero(out) || manyMeanings(n, others, 3000) == 3000 || quantifiersIn(e) > 6 {
				continue
			}
			looked++
			functions += len(others)
			if sameMeanings(t, meanings(chance, n, vocabulary()...), e, out, others) {
				trues++
			}
		}
	}
	if min(trues, looked-trues) < 2000 || functions < 10000 {
		t.Errorf("%d of %d are true, with %d functions", trues, looked, functions)
	}
}

func TestSkolemOfFreeVariables(t *testing.T) {
	for _, s := range []string{
		"P(x)", "x = C", "C = F(x)", "P(F(F(x)))", "!x P(y)", "!x P(x) & P(x)", "P(x) & !x P(x)", "?y R(x, y)", "~(0 & P(x))", "!x ?y (R(x, y) & R(y, z))", "P(a) -> !a P(a)",
	} {
		out, f := meaning.Skolem(read(t, s))
		sameFault(t, s, f, fault(api.ErrName, 0))
		if !isZero(out) {
			t.Errorf("%s: %s is answered beside a fault", s, text(out))
		}
	}
	// A free variable goes ahead of what is too much.
	for _, e := range []api.Expr{tooMuch(), and(tooMuch(), pred("K", word("x")))} {
		want := api.ErrMuch
		if len(freeIn(e)) > 0 {
			want = api.ErrName
		}
		out, f := meaning.Skolem(e)
		sameFault(t, "too much", f, fault(want, 0))
		if !isZero(out) {
			t.Errorf("%s is answered beside a fault", text(out))
		}
	}
}

// tooMuch has a function of many places at many places.
func tooMuch() api.Expr {
	names := letters(20)
	return below(names, some("z", pred("P", append(words(names...), slices.Repeat(words("z"), 150)...)...)), api.EAll)
}

// TestSkolemAmongManyNames: however many are taken, as predicates or as functions.
func TestSkolemAmongManyNames(t *testing.T) {
	e := some("x", pred("P", word("x")))
	for i, name := range letters(40) {
		if i%2 == 0 {
			e = and(pred("S"+name), e)
		} else {
			e = and(pred("P", word("S"+name)), e)
		}
	}
	_, others := skolemized(t, e)
	if len(others) != 1 {
		t.Errorf("%v are new", others)
	}
	many := pred("Q")
	for range 49 {
		many = and(many, some("x", pred("P", word("x"))))
	}
	if _, others = skolemized(t, many); len(others) != 49 {
		t.Errorf("%d are new", len(others))
	}
}

// TestSkolemOfFiveQuantifiers: however they stand, it is never too much.
func TestSkolemOfFiveQuantifiers(t *testing.T) {
	names := letters(5)
	most := 0
	for kinds := range 32 {
		var list []int
		for i := range 5 {
			list = append(list, api.EAll+kinds>>i&1)
		}
		for at := range 6 {
			// Each variable stands there once, and one of them at all places that are left.
			l := words(names...)
			last := append(names, "b")[at]
			l = append(l, slices.Repeat(words(last), api.MaxNodes-5-1-5)...)
			e := below(names, pred("P", l...), list...)
			out, _ := skolemized(t, e)
			most = max(most, count(out))
			out, _ = skolemized(t, not(below(names, pred("P", l[:len(l)-1]...), list...)))
			most = max(most, count(out))
		}
	}
	if most < 900 {
		t.Errorf("the largest has only %d nodes", most)
	}
}

// TestSkolemOfFiveByChance: expressions of nearly all nodes with five quantifiers, which stand anywhere, and of which many words hang.
func TestSkolemOfFiveByChance(t *testing.T) {
	chance := rand.New(rand.NewSource(7))
	names := letters(5)
	for range 500 {
		left, e := 5, pred("P", words(names...)...)
		bind := func() {
			left--
			e = api.Expr{Kind: api.EAll + chance.Intn(2), Name: names[left], Kids: []api.Expr{e}}
		}
		for count(e)+left <= api.MaxNodes-7 {
			if left > 0 && chance.Intn(20) == 0 {
				bind()
				continue
			}
			var l []api.Word
			for range 5 {
				l = append(l, word(append([]string{"C"}, names[:left]...)[chance.Intn(left+1)]))
			}
			e = node(api.EAnd+chance.Intn(3), e, pred("P", l...))
		}
		for left > 0 {
			bind()
		}
		if len(freeIn(e)) > 0 || quantifiersIn(e) != 5 || count(e) > api.MaxNodes {
			t.Fatalf("%s is not as it should be", text(e))
		}
		skolemized(t, e)
	}
}

// TestSkolemOfMostNodes: every call ends, with an answer or with ErrMuch.
func TestSkolemOfMostNodes(t *testing.T) {
	chain := pred("P", word("x"))
	for range 98 {
		chain = not(all("x", chain))
	}
	long := letters(60)
	for what, c := range map[string]struct {
		e      api.Expr
		isMuch bool
	}{
		"EAlls alone":            {below(letters(api.MaxNodes-1), pred("Q"), api.EAll), false},
		"ESomes alone":           {below(letters(100), pred("P", words(letters(99)...)...), api.ESome), false},
		"in turn, of nothing":    {below(letters(api.MaxNodes-1), pred("Q"), api.EAll, api.ESome), false},
		"in turn, of all":        {below(long, pred("P", words(long...)...), api.EAll, api.ESome), false},
		"in turn, of all, twice": {below(long, and(pred("P", words(long...)...), pred("P", words(long...)...)), api.EAll, api.ESome), true},
		"in nots":                {chain, false},
		"of deep words":          {below([]string{"x", "y"}, same(nested(90, word("x")), nested(99, word("y"))), api.EAll, api.ESome), false},
		"one of many":            {tooMuch(), true},
	} {
		if n := len(freeIn(c.e)); n > 0 || count(c.e) > api.MaxNodes {
			t.Fatalf("%s: %d are free of %d nodes", what, n, count(c.e))
		}
		out, _ := skolemized(t, c.e)
		if isZero(out) != c.isMuch {
			t.Errorf("%s: %d nodes", what, count(out))
		}
	}
}
