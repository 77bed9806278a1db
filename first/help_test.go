package first_test

import (
	"math/rand"
	"reflect"
	"slices"
	"strconv"
	"strings"
	"testing"

	"sequent/api"
	"sequent/first"
)

func fault(code, at int) api.Fault { return api.Fault{Code: code, At: at} }

func word(name string, args ...api.Word) api.Word { return api.Word{Name: name, Args: args} }

func words(names ...string) []api.Word {
	var l []api.Word
	for _, n := range names {
		l = append(l, word(n))
	}
	return l
}

func node(kind int, kids ...api.Expr) api.Expr { return api.Expr{Kind: kind, Kids: kids} }

func pred(name string, l ...api.Word) api.Expr {
	return api.Expr{Kind: api.EPred, Name: name, Words: l}
}

func same(a, b api.Word) api.Expr { return api.Expr{Kind: api.ESame, Words: []api.Word{a, b}} }

func not(e api.Expr) api.Expr { return node(api.ENot, e) }

func and(a, b api.Expr) api.Expr { return node(api.EAnd, a, b) }

func or(a, b api.Expr) api.Expr { return node(api.EOr, a, b) }

func then(a, b api.Expr) api.Expr { return node(api.EThen, a, b) }

func all(name string, e api.Expr) api.Expr {
	return api.Expr{Kind: api.EAll, Name: name, Kids: []api.Expr{e}}
}

func some(name string, e api.Expr) api.Expr {
	return api.Expr{Kind: api.ESome, Name: name, Kids: []api.Expr{e}}
}

// nots is e below so many ENot.
func nots(n int, e api.Expr) api.Expr {
	for range n {
		e = not(e)
	}
	return e
}

// nested is w below so many F.
func nested(n int, w api.Word) api.Word {
	for range n {
		w = word("F", w)
	}
	return w
}

// many has so many words that are the variable.
func many(n int, name string) []api.Word {
	return slices.Repeat([]api.Word{word(name)}, n)
}

// endless holds itself.
func endless() api.Expr {
	kids := make([]api.Expr, 1)
	kids[0] = api.Expr{Kind: api.ENot, Kids: kids}
	return kids[0]
}

func endlessWord() api.Word {
	args := make([]api.Word, 1)
	args[0] = api.Word{Name: "F", Args: args}
	return args[0]
}

// doubled has 2^n leaves, though only n lists are made.
func doubled(n int) api.Expr {
	e := pred("P")
	for range n {
		e = and(e, e)
	}
	return e
}

func doubledWord(n int) api.Word {
	w := word("x")
	for range n {
		w = word("G", w, w)
	}
	return w
}

func read(t *testing.T, text string) api.Expr {
	t.Helper()
	e, f := first.Parse(text)
	if f != (api.Fault{}) {
		t.Fatalf("Parse(%q): %v", text, f)
	}
	return e
}

// readWord reads a word as one that stands at both sides of a sign.
func readWord(t *testing.T, text string) api.Word {
	t.Helper()
	return read(t, text+" = "+text).Words[0]
}

func sameFault(t *testing.T, what string, got, want api.Fault) {
	t.Helper()
	if got != want {
		t.Errorf("%s: fault %v, want %v", what, got, want)
	}
}

func sameExpr(t *testing.T, what string, got, want api.Expr) {
	t.Helper()
	if told(got) != told(want) {
		t.Errorf("%s: %s, want %s", what, told(got), told(want))
	}
}

func isZero(e api.Expr) bool {
	return e.Kind == 0 && e.Name == "" && len(e.Words) == 0 && len(e.Kids) == 0
}

// told writes all there is in an expression, right or wrong: expressions are the same just if they are told alike.
func told(e api.Expr) string {
	s := strconv.Itoa(e.Kind) + strconv.Quote(e.Name) + "<" + toldWords(e.Words) + ">["
	for _, k := range e.Kids {
		s += told(k)
	}
	return s + "]"
}

func toldWords(l []api.Word) string {
	s := ""
	for _, w := range l {
		s += strconv.Quote(w.Name) + "{" + toldWords(w.Args) + "}"
	}
	return s
}

// short is a text's beginning, for what is said of long ones.
func short(s string) string { return s[:min(len(s), 40)] }

// nameless tells an expression with the distance to its quantifier for each bound variable; where it has the variable put, and this is free, it has what is for it.
func nameless(e api.Expr, put, with string) string { return namelessIn(e, nil, put, with) }

func namelessIn(e api.Expr, bound []string, put, with string) string {
	s := strconv.Itoa(e.Kind)
	if e.Kind == api.EAll || e.Kind == api.ESome {
		return s + "[" + namelessIn(e.Kids[0], append([]string{e.Name}, bound...), put, with) + "]"
	}
	s += e.Name
	for _, w := range e.Words {
		s += namelessWord(w, bound, put, with)
	}
	for _, k := range e.Kids {
		s += "[" + namelessIn(k, bound, put, with) + "]"
	}
	return s
}

func namelessWord(w api.Word, bound []string, put, with string) string {
	if i := slices.Index(bound, w.Name); i >= 0 {
		return "{" + strconv.Itoa(i) + "}"
	}
	if w.Name == put {
		return with
	}
	s := "{" + w.Name
	for _, a := range w.Args {
		s += namelessWord(a, bound, put, with)
	}
	return s + "}"
}

func count(e api.Expr) int {
	n := 1
	for _, w := range e.Words {
		n += countWord(w)
	}
	for _, k := range e.Kids {
		n += count(k)
	}
	return n
}

func countWord(w api.Word) int {
	n := 1
	for _, a := range w.Args {
		n += countWord(a)
	}
	return n
}

// byChance is a right expression of these variables, at most so deep.
func byChance(chance *rand.Rand, deep int, names ...string) api.Expr {
	name := names[chance.Intn(len(names))]
	w := func() api.Word { return wordByChance(chance, 2, names...) }
	kind := api.ENot + chance.Intn(6)
	if deep == 0 || chance.Intn(8) == 0 {
		kind = api.EPred + chance.Intn(4)
	}
	kid := func() api.Expr { return byChance(chance, deep-1, names...) }
	switch kind {
	case api.EPred:
		return [...]api.Expr{pred("Q"), pred("P", w()), pred("R", w(), w())}[chance.Intn(3)]
	case api.ESame:
		return same(w(), w())
	case api.ETrue, api.EFalse:
		if chance.Intn(3) > 0 {
			return pred("R", w(), w())
		}
		return node(kind)
	case api.ENot:
		return not(kid())
	case api.EAll:
		return all(name, kid())
	case api.ESome:
		return some(name, kid())
	}
	return node(kind, kid(), kid())
}

func wordByChance(chance *rand.Rand, deep int, names ...string) api.Word {
	k := chance.Intn(8)
	switch {
	case k == 0:
		return word("C")
	case k == 1 && deep > 0:
		return word("F", wordByChance(chance, deep-1, names...))
	case k == 2 && deep > 0:
		return word("G", wordByChance(chance, deep-1, names...), wordByChance(chance, deep-1, names...))
	}
	return word(names[chance.Intn(len(names))])
}

// small tells all expressions with so many nodes of two variables, one predicate with no place, one with two, and one function.
func small(nodes int) []api.Expr {
	if nodes < 1 {
		return nil
	}
	var l []api.Expr
	if nodes == 1 {
		l = append(l, pred("Q"), node(api.ETrue))
	}
	for _, p := range smallPairs(nodes - 1) {
		l = append(l, pred("R", p...), same(p[0], p[1]))
	}
	for _, e := range small(nodes - 1) {
		l = append(l, not(e), all("x", e), some("x", e), all("y", e))
	}
	for left := 1; left < nodes-1; left++ {
		for _, a := range small(left) {
			for _, b := range small(nodes - 1 - left) {
				l = append(l, and(a, b), or(a, b), then(a, b))
			}
		}
	}
	return l
}

func smallPairs(nodes int) [][]api.Word {
	var l [][]api.Word
	for left := 1; left < nodes; left++ {
		for _, a := range smallWords(left) {
			for _, b := range smallWords(nodes - left) {
				l = append(l, []api.Word{a, b})
			}
		}
	}
	return l
}

func smallWords(nodes int) []api.Word {
	if nodes == 1 {
		return words("x", "y")
	}
	var l []api.Word
	for _, w := range smallWords(nodes - 1) {
		l = append(l, word("F", w))
	}
	return l
}

func TestHelpers(t *testing.T) {
	if n := count(read(t, "!x (R(F(x), y) & x = C)")); n != 9 {
		t.Errorf("%d nodes", n)
	}
	if !reflect.DeepEqual(readWord(t, "F(x)"), word("F", word("x"))) {
		t.Error("words are not read")
	}
	if strings.Count(told(read(t, "~P(x)")), "x") != 1 {
		t.Error("a name is not told")
	}
}
