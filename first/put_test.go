package first_test

import (
	"math/rand"
	"slices"
	"testing"

	"sequent/api"
	"sequent/first"
)

// put answers what Put does, and holds it against the nameless texts: there nothing can be caught.
func put(t *testing.T, e api.Expr, name string, w api.Word) api.Expr {
	t.Helper()
	got, f := first.Put(e, name, w)
	if f != (api.Fault{}) {
		t.Fatalf("Put of %s for %s into %s: %v", toldWords([]api.Word{w}), name, told(e), f)
	}
	sameFault(t, "Check of "+told(got), first.Check(got), api.Fault{})
	with := namelessWord(w, nil, "", "")
	if nameless(got, "", "") != nameless(e, name, with) {
		t.Fatalf("Put of %s for %s into %s: %s", with, name, told(e), told(got))
	}
	return got
}

func TestPut(t *testing.T) {
	for _, c := range []struct{ e, name, w, want string }{
		{"P(x)", "x", "y", "P(y)"},
		{"P(x)", "y", "z", "P(x)"},
		{"P(x)", "x", "F(x)", "P(F(x))"},
		{"P(x)", "x", "x", "P(x)"},
		{"P(x) & x = C", "x", "G(C, y)", "P(G(C, y)) & G(C, y) = C"},
		{"R(x, F(x)) -> ~P(y)", "x", "C", "R(C, F(C)) -> ~P(y)"},
		{"R(x, F(xx))", "x", "y", "R(y, F(xx))"},
		{"1 | Q", "x", "y", "1 | Q"},
		{"!x P(x)", "x", "y", "!x P(x)"},
		{"!x P(x) & P(x)", "x", "y", "!x P(x) & P(y)"},
		{"P(x) & ?x P(x)", "x", "C", "P(C) & ?x P(x)"},
		{"!y R(x, y)", "x", "z", "!y R(z, y)"},
		{"!y R(x, y)", "x", "F(C)", "!y R(F(C), y)"},
		{"!y R(x, y)", "x", "x", "!y R(x, y)"},
		{"!x R(x, y)", "y", "y", "!x R(x, y)"},
		{"?y R(x, y)", "x", "y", "?a R(y, a)"},
		{"?y P(y) & P(x)", "x", "y", "?y P(y) & P(y)"},
		{"?y P(x)", "x", "y", "?a P(y)"},
		{"?y ?x R(x, y)", "x", "y", "?y ?x R(x, y)"},
		{"!y ?y R(x, y)", "x", "y", "!a ?b R(y, b)"},
		{"!y (P(y) & ?y R(x, y))", "x", "y", "!a (P(a) & ?b R(y, b))"},
		{"!y (R(x, y) & ?y P(y))", "x", "y", "!a (R(y, a) & ?b P(b))"},
		{"!y !z R(x, G(y, z))", "x", "G(y, z)", "!a !b R(G(y, z), G(a, b))"},
		{"!y !z R(x, G(y, z))", "x", "G(z, y)", "!a !b R(G(z, y), G(a, b))"},
		{"!y R(x, y) & !y R(y, x)", "x", "y", "!a R(y, a) & !a R(a, y)"},
		{"!y (R(x, y) & !x R(x, y))", "x", "F(y)", "!a (R(F(y), a) & !x R(x, a))"},
		{"!a ?y R(x, G(y, a))", "x", "y", "!a ?b R(y, G(b, a))"},
		{"!y ?a R(x, y)", "x", "y", "!b ?a R(y, b)"},
		{"!y (?a ?b R(x, y) & a = c)", "x", "y", "!d (?a ?b R(y, d) & a = c)"},
		{"?a ?b !y R(G(x, a), G(y, b))", "x", "G(y, a)", "?c ?b !d R(G(G(y, a), c), G(d, b))"},
		{"?y R(G(x, a), G(y, b))", "x", "G(y, c)", "?d R(G(G(y, c), a), G(d, b))"},
		{"x = F(x)", "x", "F(F(x))", "F(F(x)) = F(F(F(x)))"},
	} {
		got := put(t, read(t, c.e), c.name, readWord(t, c.w))
		if !alike(t, got, read(t, c.want)) {
			t.Errorf("Put of %s for %s into %q: %q, want it like %q", c.w, c.name, c.e, printed(t, got), c.want)
		}
	}
}

// TestPutChangesNoOtherNames: where nothing is caught the names of bound variables stay.
func TestPutChangesNoOtherNames(t *testing.T) {
	for _, c := range []struct{ e, w, want string }{
		{"!y (P(y) & ?z R(y, z)) & P(x)", "y", "!y (P(y) & ?z R(y, z)) & P(y)"},
		{"!z ?y P(y) & R(x, z)", "F(y)", "!z ?y P(y) & R(F(y), z)"},
		{"!y !x R(x, y)", "y", "!y !x R(x, y)"},
	} {
		sameExpr(t, c.e, put(t, read(t, c.e), "x", readWord(t, c.w)), read(t, c.want))
	}
}

// TestPutForAnySmall: each small expression, with each variable, and with words of which one or both variables can be caught.
func TestPutForAnySmall(t *testing.T) {
	l := []api.Word{word("x"), word("y"), word("C"), word("F", word("y")), word("G", word("y"), word("x"))}
	for nodes := range 6 {
		for _, e := range small(nodes) {
			for _, w := range l {
				put(t, e, "x", w)
				put(t, e, "y", w)
			}
		}
	}
}

// structure has two things, with the tables of P, R, Q, F, G and C.
type structure struct {
	p    [2]bool
	r    [2][2]bool
	q    bool
	f    [2]int
	g    [2][2]int
	c    int
	vars map[string]int
}

func structureByChance(chance *rand.Rand) structure {
	coin := func() int { return chance.Intn(2) }
	s := structure{q: coin() == 0, f: [2]int{coin(), coin()}, g: [2][2]int{{coin(), coin()}, {coin(), coin()}}, c: coin(), vars: map[string]int{}}
	s.p = [2]bool{coin() == 0, coin() == 0}
	s.r = [2][2]bool{{coin() == 0, coin() == 0}, {coin() == 0, coin() == 0}}
	for _, name := range []string{"x", "y", "z", "a", "b"} {
		s.vars[name] = coin()
	}
	return s
}

func (s structure) value(w api.Word) int {
	switch w.Name {
	case "C":
		return s.c
	case "F":
		return s.f[s.value(w.Args[0])]
	case "G":
		return s.g[s.value(w.Args[0])][s.value(w.Args[1])]
	}
	return s.vars[w.Name]
}

// with is the structure with a value for a variable.
func (s structure) with(name string, value int) structure {
	vars := map[string]int{}
	for n, v := range s.vars {
		vars[n] = v
	}
	vars[name] = value
	s.vars = vars
	return s
}

func (s structure) holds(e api.Expr) bool {
	switch e.Kind {
	case api.EPred:
		return s.holdsOf(e)
	case api.ESame:
		return s.value(e.Words[0]) == s.value(e.Words[1])
	case api.ETrue, api.EFalse:
		return e.Kind == api.ETrue
	case api.ENot:
		return !s.holds(e.Kids[0])
	case api.EAnd:
		return s.holds(e.Kids[0]) && s.holds(e.Kids[1])
	case api.EOr:
		return s.holds(e.Kids[0]) || s.holds(e.Kids[1])
	case api.EThen:
		return !s.holds(e.Kids[0]) || s.holds(e.Kids[1])
	case api.EAll:
		return s.with(e.Name, 0).holds(e.Kids[0]) && s.with(e.Name, 1).holds(e.Kids[0])
	}
	return s.with(e.Name, 0).holds(e.Kids[0]) || s.with(e.Name, 1).holds(e.Kids[0])
}

func (s structure) holdsOf(e api.Expr) bool {
	switch e.Name {
	case "P":
		return s.p[s.value(e.Words[0])]
	case "R":
		return s.r[s.value(e.Words[0])][s.value(e.Words[1])]
	}
	return s.q
}

// TestPutMeansTheWord: what is answered is true just where e is, when the variable has the word's value.
func TestPutMeansTheWord(t *testing.T) {
	chance := rand.New(rand.NewSource(6))
	caught := 0
	for range 6000 {
		names := [][]string{{"x", "y", "z"}, {"a", "b", "x"}}[chance.Intn(2)]
		e, w := byChance(chance, 1+chance.Intn(6), names...), wordByChance(chance, 2, names...)
		if count(e)*countWord(w) > api.MaxNodes {
			continue
		}
		name := names[chance.Intn(3)]
		got := put(t, e, name, w)
		if !slices.Equal(quantifiers(got), quantifiers(e)) {
			caught++
		}
		for range 8 {
			s := structureByChance(chance)
			if s.holds(got) != s.with(name, s.value(w)).holds(e) {
				t.Fatalf("Put of %s for %s into %s: %s has another meaning", toldWords([]api.Word{w}), name, told(e), told(got))
			}
		}
	}
	if caught < 500 {
		t.Errorf("only %d got other names", caught)
	}
}

func quantifiers(e api.Expr) []string {
	var l []string
	if e.Kind == api.EAll || e.Kind == api.ESome {
		l = append(l, e.Name)
	}
	for _, k := range e.Kids {
		l = append(l, quantifiers(k)...)
	}
	return l
}

func TestPutFaults(t *testing.T) {
	x, y := word("x"), word("y")
	twice, clash := pred("R", x, x), pred("R", x, word("F"))
	for _, c := range []struct {
		what string
		e    api.Expr
		name string
		w    api.Word
		want api.Fault
	}{
		{"no variable", pred("P", x), "X", y, fault(api.ErrName, 0)},
		{"no variable ahead of a wrong word", pred("P", x), "", word("y", y), fault(api.ErrName, 0)},
		{"no variable ahead of too much", twice, "x1", nested(150, x), fault(api.ErrName, 0)},
		{"wrong word ahead of too much", pred("R", many(150, "x")...), "x", word("G", y, y, word("")), fault(api.ErrName, 3)},
		{"wrong word ahead of other places", clash, "x", word("F", word("F")), fault(api.ErrForm, 1)},
		{"too much", twice, "x", nested(150, x), fault(api.ErrMuch, 0)},
		{"too much, by one", twice, "x", nested(99, y), fault(api.ErrMuch, 0)},
		{"too much, once, by one", pred("P", x), "x", nested(199, y), fault(api.ErrMuch, 0)},
		{"too much, by one below a quantifier", all("y", not(pred("P", x))), "x", nested(197, y), fault(api.ErrMuch, 0)},
		{"too much in many places", pred("P", many(199, "x")...), "x", nested(199, y), fault(api.ErrMuch, 0)},
		{"too much ahead of other places", pred("R", x, x, word("F")), "x", nested(150, x), fault(api.ErrMuch, 0)},
		{"other places", clash, "x", word("F", y), fault(api.ErrForm, 0)},
		{"other places, none", same(word("F", y), x), "x", word("F"), fault(api.ErrForm, 0)},
		{"other places, deeper", all("y", or(pred("Q"), pred("P", word("G", x, word("F", y))))), "x", word("G", y, word("F", y, y)), fault(api.ErrForm, 0)},
		{"other places below a quantifier of its name", and(all("x", pred("P", word("F", x))), pred("P", x)), "x", word("F", y, y), fault(api.ErrForm, 0)},
		{"other places around it", pred("P", word("F", x)), "x", word("F"), fault(api.ErrForm, 0)},
	} {
		got, f := first.Put(c.e, c.name, c.w)
		sameFault(t, c.what, f, c.want)
		if !isZero(got) {
			t.Errorf("%s: an expression is answered beside the fault", c.what)
		}
	}
}

// TestPutOfNoVariables: whatever else is said, and even where there is nothing to put.
func TestPutOfNoVariables(t *testing.T) {
	for _, s := range notVariables() {
		for _, e := range []api.Expr{pred("P", word("x")), node(api.ETrue), pred("P", word("X"))} {
			got, f := first.Put(e, s, word("y"))
			sameFault(t, short(s), f, fault(api.ErrName, 0))
			if !isZero(got) {
				t.Errorf("%q: an expression is answered beside the fault", short(s))
			}
		}
	}
	put(t, pred("P", word("abcdefgh")), "abcdefgh", word("ABCDEFGH"))
}

// TestPutOfFaultyWords: a word's faults are told even where it is put nowhere.
func TestPutOfFaultyWords(t *testing.T) {
	x := word("x")
	for _, c := range faultyWords() {
		for what, e := range map[string]api.Expr{
			"free":             pred("P", x),
			"bound":            all("x", pred("P", x)),
			"not there":        node(api.EFalse),
			"at many places":   pred("P", many(199, "x")...),
			"with F elsewhere": pred("P", x, word("F", x, x, x, x)),
		} {
			got, f := first.Put(e, "x", c.w)
			sameFault(t, c.what+", "+what, f, c.want)
			if !isZero(got) {
				t.Errorf("%s, %s: an expression is answered beside the fault", c.what, what)
			}
		}
	}
}

func TestPutOfMostNodes(t *testing.T) {
	x, y := word("x"), word("y")
	sameExpr(t, "just kept", put(t, pred("P", x), "x", nested(198, y)), pred("P", nested(198, y)))
	sameExpr(t, "just kept, twice", put(t, not(pred("R", x, x)), "x", nested(98, y)), not(pred("R", nested(98, y), nested(98, y))))
	sameExpr(t, "one node for one", put(t, pred("P", many(199, "x")...), "x", word("C")), pred("P", slices.Repeat(words("C"), 199)...))
	sameExpr(t, "where it is not", put(t, nots(198, pred("P", y)), "x", nested(199, y)), nots(198, pred("P", y)))
	sameExpr(t, "where it is bound", put(t, all("x", nots(197, pred("P", x))), "x", nested(199, y)), all("x", nots(197, pred("P", x))))
	if e := put(t, all("y", not(pred("P", x))), "x", nested(196, y)); count(e) != api.MaxNodes {
		t.Errorf("%d nodes", count(e))
	}
}

// TestPutWhereItIsNot: what a word has beside the expression does not matter, where it is put nowhere.
func TestPutWhereItIsNot(t *testing.T) {
	for _, e := range []api.Expr{pred("P", word("F", word("y"))), all("x", same(word("F", word("x")), word("x")))} {
		sameExpr(t, told(e), put(t, e, "x", word("F", word("y"), word("z"))), e)
	}
}

// TestPutOfPredicatesNames: predicates and functions are apart.
func TestPutOfPredicatesNames(t *testing.T) {
	put(t, pred("P", word("x")), "x", word("P", word("x"), word("y")))
	put(t, and(pred("Q"), pred("P", word("x"))), "x", word("Q", word("P")))
}

// TestPutAmongManyNames: new names are found though the first ones are all taken, and each of many quantifiers that catch gets one.
func TestPutAmongManyNames(t *testing.T) {
	var l []api.Word
	for c := range 26 {
		l = append(l, word(string(rune('a'+c))))
	}
	for c := range 26 {
		l = append(l, word("a"+string(rune('a'+c))))
	}
	e := all("y", pred("P", l...))
	put(t, e, "x", word("y"))
	put(t, e, "x", word("G", l[:30]...))

	deep := pred("P", l...)
	for _, w := range l {
		deep = some(w.Name, deep)
	}
	put(t, not(all("abc", and(deep, pred("P", slices.Repeat(words("abc"), 52)...)))), "x", word("G", l...))
	put(t, all("y", and(pred("Q", word("x")), deep)), "x", word("H", l[:20]...))

	below := pred("P", append([]api.Word{word("free")}, l...)...)
	for _, w := range l {
		below = some(w.Name, below)
	}
	got := put(t, below, "free", word("G", l...))
	names := quantifiers(got)
	slices.Sort(names)
	if len(slices.Compact(names)) != len(l) {
		t.Errorf("quantifiers in one another have the same names: %q", names)
	}
}
