package resolve_test

import (
	"slices"
	"strconv"
	"strings"
	"testing"

	"sequent/api"
	"sequent/first"
	"sequent/resolve"
)

// endless holds itself.
func endless() api.Word {
	args := make([]api.Word, 1)
	args[0] = api.Word{Name: "F", Args: args}
	return args[0]
}

// doubled has 2^n leaves, though only n lists are made.
func doubled(n int) api.Word {
	w := word("x")
	for range n {
		w = word("G", w, w)
	}
	return w
}

func badNames() []string {
	return []string{"", "abcdefghi", "ABCDEFGHI", "Abcdefghi", "xY", "x1", "X1", "1", "x y", " x", "X ", "x\n", "\x00", "`", "{", "x{", "@", "[", "X[", "é", "X\xff", "x(", "F(x)", "~P", strings.Repeat("A", 1<<20)}
}

func short(s string) string { return strconv.Quote(s[:min(len(s), 20)]) }

// faultyWord is a word and the code that chapter 13's Check tells of it alone.
type faultyWord struct {
	what string
	w    api.Word
	code int
}

func faultyWords() []faultyWord {
	const most = api.MaxNodes
	x, many := word("x"), func(n int) []api.Word { return slices.Repeat(words("x"), n) }
	l := []faultyWord{
		{"zero word", api.Word{}, api.ErrName},
		{"no name within", word("G", x, nested(3, word(""))), api.ErrName},
		{"a variable with Args", word("x", x), api.ErrSize},
		{"a variable with Args within", word("F", word("G", x, word("y", word("C")))), api.ErrSize},
		{"a variable with Args ahead of a name", word("x", word("")), api.ErrSize},
		{"a name ahead of Args", word("F", word("1", word("x", x))), api.ErrName},
		{"two numbers of Args", word("F", word("F", x, x)), api.ErrForm},
		{"two numbers of Args, side by side", word("G", word("F", x), word("F")), api.ErrForm},
		{"two numbers of Args ahead of a name", word("G", word("C"), word("C", word(""))), api.ErrForm},
		{"one node too many", nested(most, x), api.ErrMany},
		{"one Arg too many", word("F", many(most)...), api.ErrMany},
		{"a fault at the last node", nested(most-1, word("")), api.ErrName},
		{"a fault behind the last node", nested(most, word("")), api.ErrMany},
		{"very many Args", word("F", many(1<<20)...), api.ErrMany},
		{"very many Args of a variable", word("x", many(1<<20)...), api.ErrSize},
		{"very deep", nested(50000, x), api.ErrMany},
		{"endless", endless(), api.ErrMany},
		{"doubled", doubled(60), api.ErrMany},
	}
	for _, s := range badNames() {
		l = append(l, faultyWord{"name " + short(s), word(s), api.ErrName}, faultyWord{"name within " + short(s), word("G", x, word(s, x)), api.ErrName})
	}
	return l
}

// TestFaultsAreChapter13s: the codes above are what Check says of words, where one node more does not matter.
func TestFaultsAreChapter13s(t *testing.T) {
	for _, c := range faultyWords() {
		f := first.Check(api.Expr{Kind: api.EPred, Name: "P", Words: []api.Word{c.w}})
		if f.Code != c.code && c.what != "a fault at the last node" {
			t.Errorf("%s: %v, want %d", c.what, f, c.code)
		}
	}
}

// faultyClause is a clause and the code of its first fault.
type faultyClause struct {
	what   string
	clause []api.Literal
	code   int
}

func faultyClauses() []faultyClause {
	p := literal("P", word("x"))
	var l []faultyClause
	for _, s := range append(badNames(), "p", "z", "abcdefgh", "not") {
		l = append(l,
			faultyClause{"Name " + short(s), []api.Literal{literal(s)}, api.ErrName},
			faultyClause{"last Name " + short(s), []api.Literal{p, opposite(p), opposite(literal(s, word("C")))}, api.ErrName})
	}
	for _, c := range faultyWords() {
		l = append(l,
			faultyClause{"word: " + c.what, []api.Literal{literal("P", c.w)}, c.code},
			faultyClause{"last word: " + c.what, []api.Literal{p, opposite(literal("P", word("x"), word("F", word("C")), c.w))}, c.code})
	}
	return append(l, faultyListsOfLiterals()...)
}

func faultyListsOfLiterals() []faultyClause {
	const most = api.MaxNodes
	r, none := literal("R"), literal("")
	deep := func(nodes int) api.Literal { return literal("P", nested(nodes-2, word("x"))) }
	wide := func(nodes int) api.Literal { return literal("Q", slices.Repeat(words("x"), nodes-1)...) }
	bad := func(w api.Word) api.Literal { return literal("Q", word("x"), w) }
	return []faultyClause{
		{"twenty-one literals", slices.Repeat([]api.Literal{r}, 21), api.ErrMany},
		{"very many literals", slices.Repeat([]api.Literal{r}, 1<<20), api.ErrMany},
		{"twenty-one ahead of names", slices.Repeat([]api.Literal{none}, 21), api.ErrMany},
		{"twenty without names", slices.Repeat([]api.Literal{none}, 20), api.ErrName},
		{"a name ahead of words", []api.Literal{literal("p", word("x", word("")))}, api.ErrName},
		{"words ahead of the next name", []api.Literal{bad(word("x", word("C"))), none}, api.ErrSize},
		{"a name ahead of the next words", []api.Literal{none, bad(word("x", word("C")))}, api.ErrName},
		{"the first word that is wrong", []api.Literal{literal("Q", word("F", word("F")), word(""), word("x", word("x")))}, api.ErrForm},
		{"words in the first literal that has some", []api.Literal{r, bad(word("x", word("x"))), bad(word(""))}, api.ErrSize},
		{"one node too many", []api.Literal{deep(most + 1)}, api.ErrMany},
		{"one word too many", []api.Literal{wide(most + 1)}, api.ErrMany},
		{"very many words", []api.Literal{wide(1 << 12)}, api.ErrMany},
		{"one literal too many", []api.Literal{r, opposite(deep(100)), wide(100)}, api.ErrMany},
		{"as many as literals are", append(slices.Repeat([]api.Literal{r}, 19), wide(most-18)), api.ErrMany},
		{"twenty large ones", slices.Repeat([]api.Literal{deep(most + 1)}, 20), api.ErrMany},
		{"a name behind too many nodes", []api.Literal{deep(most), wide(most), none}, api.ErrName},
		{"a word behind too many nodes", []api.Literal{deep(most), wide(most), bad(word("F", word("F")))}, api.ErrForm},
		{"a word too large behind too many nodes", []api.Literal{deep(most), bad(nested(most, word("x"))), none}, api.ErrMany},
		{"a word behind very many", []api.Literal{literal("Q", append(slices.Repeat(words("x"), 1<<12), word("x1"))...)}, api.ErrName},
	}
}

// rightClauses are at the edges of what may be.
func rightClauses(t *testing.T) [][]api.Literal {
	const most = api.MaxNodes
	r := literal("R")
	l := readList(t, "; P; ~Abcdefgh(abcdefgh); P(x) P(x) ~P(x); P P(x) P(x,x) P(P,P); F(F); P(F) P(F(x)) Q(F(x,y),F); P(F(G),G(C)) R(G(F),F(C)); C(C,c) C")
	return append(l,
		slices.Repeat([]api.Literal{r}, 20),
		[]api.Literal{literal("P", nested(most-2, word("x")))},
		[]api.Literal{literal("Q", slices.Repeat(words("x"), most-1)...)},
		[]api.Literal{opposite(r), literal("P", nested(98, word("C"))), literal("Q", slices.Repeat(words("x"), 98)...)},
		append(slices.Repeat([]api.Literal{r}, 19), literal("P", nested(179, word("x")))),
	)
}

// calls are all three of the package: each tells first what Check does.
func calls() map[string]func(l [][]api.Literal) api.Fault {
	return map[string]func(l [][]api.Literal) api.Fault{
		"Check":                       resolve.Check,
		"Replay of no steps":          func(l [][]api.Literal) api.Fault { return resolve.Replay(l, nil) },
		"Replay of wrong steps":       func(l [][]api.Literal) api.Fault { return resolve.Replay(l, make([]api.Infer, 3)) },
		"Replay of too many":          func(l [][]api.Literal) api.Fault { return resolve.Replay(l, make([]api.Infer, api.MaxList+1)) },
		"Replay of one that is right": func(l [][]api.Literal) api.Fault { return resolve.Replay(l, []api.Infer{{Kind: 1}}) },
		"Refute": func(l [][]api.Literal) api.Fault {
			steps, f := resolve.Refute(l)
			if len(steps) > 0 && f != (api.Fault{}) {
				return fault(-1, -1)
			}
			return f
		},
	}
}

func TestFaultsOfClauses(t *testing.T) {
	p := readClause(t, "P(x)")
	for name, call := range calls() {
		for _, c := range faultyClauses() {
			for _, n := range []int{1, 2, 40} {
				for _, at := range []int{0, n / 2, n - 1} {
					l := slices.Repeat([][]api.Literal{p}, n)
					l[at] = c.clause
					sameFault(t, name+": "+c.what, call(l), fault(c.code, at))
				}
			}
		}
	}
}

// TestTheFirstClauseIsTold: whatever the others are.
func TestTheFirstClauseIsTold(t *testing.T) {
	p, l := readClause(t, "P(x)"), faultyClauses()
	for name, call := range calls() {
		for i, c := range l {
			list := [][]api.Literal{p, nil, c.clause, p, l[(i+1)%len(l)].clause, l[(i+7)%len(l)].clause}
			sameFault(t, name+": "+c.what, call(list), fault(c.code, 2))
		}
	}
}

func TestNumberOfClauses(t *testing.T) {
	for name, call := range calls() {
		for _, c := range [][]api.Literal{readClause(t, "P(x)"), nil, {{}}} {
			for _, n := range []int{41, 42, 1 << 20} {
				sameFault(t, name+": "+told(c), call(slices.Repeat([][]api.Literal{c}, n)), fault(api.ErrMany, 0))
			}
		}
		late := slices.Repeat([][]api.Literal{nil}, 41)
		late[40] = []api.Literal{{}}
		sameFault(t, name+": a fault behind 40", call(late), fault(api.ErrMany, 0))
		sameFault(t, name+": a fault in the 40th", call(late[1:]), fault(api.ErrName, 39))
	}
}

func TestCheckSaysNothing(t *testing.T) {
	sameFault(t, "no clauses", resolve.Check(nil), api.Fault{})
	for _, c := range rightClauses(t) {
		for _, n := range []int{1, 2, 39, 40} {
			sameFault(t, told(c), resolve.Check(slices.Repeat([][]api.Literal{c}, n)), api.Fault{})
		}
	}
	sameFault(t, "all", resolve.Check(rightClauses(t)), api.Fault{})
}

// TestBigNamesMayHaveSeveralNumbersOfPlaces: in other words, literals and clauses. They are other functions and predicates then.
func TestBigNamesMayHaveSeveralNumbersOfPlaces(t *testing.T) {
	for text, want := range map[string]bool{
		"P(F,F(C)); ~P(F,F(C))":      true,
		"P(F,F(C)); ~P(x,F(x))":      false,
		"P(C); ~P":                   false,
		"P(C); ~P(C,C)":              false,
		"P(C) P; ~P(C); ~P":          true,
		"P(F); ~P(F(C))":             false,
		"P(F(C)); ~P(F(C,C))":        false,
		"P(F(x),F(x,x)); ~P(y,F(C))": false,
		"P(P); ~P(P)":                true,
	} {
		l := readList(t, text)
		sameFault(t, text, resolve.Check(l), api.Fault{})
		if want {
			refuted(t, text, l)
		} else {
			refused(t, text, l, fault(api.ErrNone, 0))
		}
	}
}
