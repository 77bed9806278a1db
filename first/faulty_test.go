package first_test

import (
	"strings"

	"sequent/api"
)

// faulty is an expression and the fault that each call tells of it.
type faulty struct {
	what string
	e    api.Expr
	want api.Fault
}

// faultyWord is a word and the fault that is told of it alone.
type faultyWord struct {
	what string
	w    api.Word
	want api.Fault
}

func notVariables() []string {
	return []string{"", "abcdefghi", "X", "xY", "Xy", "x1", "1", "x y", " x", "x\n", "\x00", "`", "{", "x{", "é", "\xff", "x'", "_", strings.Repeat("a", 1<<20)}
}

func notBig() []string {
	return []string{"", "p", "pQ", "p1", "P1", "1P", "P Q", " P", "P\n", "\x00", "@", "[", "P[", "P@", "P`", "P{", "É", "Pé", "\xff", "P(", "ABCDEFGHI", "Abcdefghi", strings.Repeat("A", 1<<20)}
}

// notNames are neither variables nor big names.
func notNames() []string {
	return []string{"", "abcdefghi", "ABCDEFGHI", "Abcdefghi", "xY", "x1", "X1", "1", "x y", " x", "X ", "x\n", "\x00", "`", "{", "x{", "@", "[", "X[", "é", "X\xff", "x(", strings.Repeat("A", 1<<20)}
}

func faultyExprs() []faulty {
	bad, x := api.Expr{}, word("x")
	l := []faulty{
		{"zero expression", bad, fault(api.ErrKind, 0)},
		{"kind ahead of size and name", api.Expr{Kind: 11, Name: "a b", Words: words(""), Kids: []api.Expr{bad}}, fault(api.ErrKind, 0)},
		{"size ahead of name", api.Expr{Kind: api.ENot, Name: "x"}, fault(api.ErrSize, 0)},
		{"size ahead of name, of a quantifier", api.Expr{Kind: api.EAll, Name: "X", Kids: []api.Expr{bad, bad}}, fault(api.ErrSize, 0)},
		{"size ahead of name, of a predicate", api.Expr{Kind: api.EPred, Name: "p", Kids: []api.Expr{bad}}, fault(api.ErrSize, 0)},
		{"name ahead of words", pred("p", word("")), fault(api.ErrName, 0)},
		{"name ahead of kids", all("X", bad), fault(api.ErrName, 0)},
		{"words ahead of the words behind them", same(word("F", word("")), word("")), fault(api.ErrName, 2)},
		{"words ahead of the kids behind them", and(pred("P", x, word("F", x, word("x1"))), bad), fault(api.ErrName, 5)},
		{"first kid ahead of second", or(pred(""), bad), fault(api.ErrName, 1)},
		{"what is in the first kid ahead of the second", or(not(pred("")), bad), fault(api.ErrName, 2)},
		{"behind a whole first kid", then(and(pred("P", x), same(x, word("F", x))), or(pred("P", x), node(api.ENot))), fault(api.ErrSize, 11)},
		{"a word's name ahead of its size", pred("P", word("abcdefghi", x)), fault(api.ErrName, 1)},
		{"a variable with Args", pred("P", x, word("y", x)), fault(api.ErrSize, 2)},
		{"a variable with Args ahead of these", same(word("x", word("")), word("")), fault(api.ErrSize, 1)},
		{"a variable with Args, at the second place", same(x, word("F", word("x", x, x))), fault(api.ErrSize, 3)},
	}
	for _, kind := range []int{-1 << 63, -1, 0, 11, 12, 1<<63 - 1} {
		l = append(l, faulty{"no such kind", and(pred("P"), api.Expr{Kind: kind}), fault(api.ErrKind, 2)})
	}
	l = append(l, faultyNames()...)
	l = append(l, faultySizes()...)
	l = append(l, faultyCounts()...)
	return append(l, faultyPlaces()...)
}

func faultyNames() []faulty {
	var l []faulty
	for _, s := range notVariables() {
		l = append(l, faulty{"all " + short(s), all(s, pred("P")), fault(api.ErrName, 0)})
		l = append(l, faulty{"some " + short(s), not(some(s, pred("P"))), fault(api.ErrName, 1)})
	}
	for _, s := range notBig() {
		l = append(l, faulty{"predicate " + short(s), not(pred(s)), fault(api.ErrName, 1)})
		l = append(l, faulty{"predicate of words " + short(s), pred(s, word("x")), fault(api.ErrName, 0)})
	}
	for _, s := range notNames() {
		l = append(l, faulty{"word " + short(s), pred("P", word("x"), word(s)), fault(api.ErrName, 2)})
		l = append(l, faulty{"word of words " + short(s), pred("P", word("F", word(s, word("x")))), fault(api.ErrName, 2)})
	}
	return l
}

// shapes has how many Words and Kids an expression of each kind has; of EPred any number of Words.
var shapes = []struct{ words, kids int }{
	api.EPred: {-1, 0}, api.ESame: {2, 0}, api.ETrue: {}, api.EFalse: {}, api.ENot: {0, 1},
	api.EAnd: {0, 2}, api.EOr: {0, 2}, api.EThen: {0, 2}, api.EAll: {0, 1}, api.ESome: {0, 1},
}

// rightName is one that an expression of the kind may have.
func rightName(kind int) string {
	switch kind {
	case api.EPred:
		return "P"
	case api.EAll, api.ESome:
		return "x"
	}
	return ""
}

// faultySizes has each kind with each number of Words and Kids that it may not have, and with a name where there may be none, or with none.
func faultySizes() []faulty {
	var l []faulty
	for kind := api.EPred; kind <= api.ESome; kind++ {
		for n := range 5 {
			for k := range 5 {
				e := api.Expr{Kind: kind, Name: rightName(kind), Words: many(n, "x")}
				for range k {
					e.Kids = append(e.Kids, pred("Q"))
				}
				if k != shapes[kind].kids || n != shapes[kind].words && kind != api.EPred {
					l = append(l, faulty{"size of " + told(e), not(e), fault(api.ErrSize, 1)})
					continue
				}
				e.Name = "p" + strings.ToUpper(e.Name)
				l = append(l, faulty{"name of " + told(e), not(e), fault(api.ErrName, 1)})
				if rightName(kind) != "" {
					e.Name = ""
					l = append(l, faulty{"no name of " + told(e), not(e), fault(api.ErrName, 1)})
				}
			}
		}
	}
	return l
}

// faultyCounts has expressions with too many nodes, and with other faults at the edge.
func faultyCounts() []faulty {
	const most = api.MaxNodes
	bad, q, x := api.Expr{}, pred("Q"), word("x")
	return []faulty{
		{"one node too many", nots(most, q), fault(api.ErrMany, 0)},
		{"one word too many", pred("P", many(most, "x")...), fault(api.ErrMany, 0)},
		{"one Arg too many", pred("P", word("F", many(most-1, "x")...)), fault(api.ErrMany, 0)},
		{"one word too many, nested", same(nested(most-3, x), word("y", x)), fault(api.ErrSize, most-1)},
		{"one word too many, nested deeper", same(nested(most-2, x), word("y", x)), fault(api.ErrMany, 0)},
		{"fault at the last node that is looked at", nots(most-1, bad), fault(api.ErrKind, most-1)},
		{"fault behind the last node", nots(most, bad), fault(api.ErrMany, 0)},
		{"fault of a word at the last node", nots(most-2, pred("P", word(""))), fault(api.ErrName, most-1)},
		{"fault of a word behind the last node", nots(most-1, pred("P", word(""))), fault(api.ErrMany, 0)},
		{"fault ahead of too many", and(pred("p q"), nots(300, q)), fault(api.ErrName, 1)},
		{"too many ahead of a fault", and(nots(300, q), bad), fault(api.ErrMany, 0)},
		{"places ahead of too many", and(and(pred("P"), pred("P", x)), nots(300, q)), fault(api.ErrForm, 3)},
		{"too many ahead of places", and(pred("P"), and(nots(300, q), pred("P", x))), fault(api.ErrMany, 0)},
		{"places at the last node", and(q, nots(most-3, pred("Q", x))), fault(api.ErrForm, most-1)},
		{"places behind the last node", and(q, nots(most-2, pred("Q", x))), fault(api.ErrMany, 0)},
		{"very many kids", node(api.EAnd, make([]api.Expr, 1<<20)...), fault(api.ErrSize, 0)},
		{"very many words", pred("P", many(1<<20, "x")...), fault(api.ErrMany, 0)},
		{"very many Args", same(word("F", many(1<<20, "x")...), x), fault(api.ErrMany, 0)},
		{"very many Args of a variable", same(word("x", many(1<<20, "x")...), x), fault(api.ErrSize, 1)},
		{"very many words, and none ahead", and(pred("P"), pred("P", many(1<<20, "x")...)), fault(api.ErrForm, 2)},
		{"endless", endless(), fault(api.ErrMany, 0)},
		{"endless word", pred("P", endlessWord()), fault(api.ErrMany, 0)},
		{"doubled", doubled(60), fault(api.ErrMany, 0)},
		{"doubled word", same(doubledWord(60), x), fault(api.ErrMany, 0)},
		{"deep", nots(50000, q), fault(api.ErrMany, 0)},
		{"deep word", pred("P", nested(50000, x)), fault(api.ErrMany, 0)},
	}
}

// faultyPlaces has big names with two numbers of Words or of Args.
func faultyPlaces() []faulty {
	x, c := word("x"), word("C")
	f := func(l ...api.Word) api.Word { return word("F", l...) }
	return []faulty{
		{"none, then one", and(pred("P"), pred("P", x)), fault(api.ErrForm, 2)},
		{"one, then none", and(pred("P", x), pred("P")), fault(api.ErrForm, 3)},
		{"two, then one", all("x", then(pred("P", x, x), not(pred("P", x)))), fault(api.ErrForm, 6)},
		{"far apart", or(pred("Q"), or(pred("P", x), or(pred("R", x, x), pred("Q", x)))), fault(api.ErrForm, 9)},
		{"the third one", and(and(pred("P", x), pred("P", x)), pred("P")), fault(api.ErrForm, 6)},
		{"function, none, then one", same(f(), f(x)), fault(api.ErrForm, 2)},
		{"function, one, then none", same(f(x), f()), fault(api.ErrForm, 3)},
		{"function in itself", pred("P", f(f(x, x))), fault(api.ErrForm, 2)},
		{"function in another", pred("P", f(c), word("G", word("C", x))), fault(api.ErrForm, 4)},
		{"function in other expressions", and(pred("P", f(x)), some("y", same(x, f(x, x)))), fault(api.ErrForm, 7)},
		{"predicate ahead of its words", and(pred("P", x), pred("P", word(""), x)), fault(api.ErrForm, 3)},
		{"function ahead of its Args", same(f(x), f(word(""), x)), fault(api.ErrForm, 3)},
		{"predicate's words ahead of it, if they are", and(pred("P", word("x", x)), pred("P")), fault(api.ErrSize, 2)},
		{"places ahead of a fault behind them", and(and(pred("P", x), pred("P")), api.Expr{}), fault(api.ErrForm, 4)},
		{"a fault ahead of places", and(and(pred("P", x), api.Expr{}), pred("P")), fault(api.ErrKind, 4)},
		{"places of a word ahead of a fault", and(same(f(x), f()), pred("p")), fault(api.ErrForm, 4)},
		{"places of a word ahead of those of a predicate", and(pred("P", f(), f(x)), pred("P")), fault(api.ErrForm, 3)},
		{"name ahead of places", and(pred("P"), api.Expr{Kind: api.EAll, Name: "P", Words: many(1, "x"), Kids: []api.Expr{pred("P")}}), fault(api.ErrSize, 2)},
		{"long names", and(pred("Abcdefgh", x), pred("Abcdefgh")), fault(api.ErrForm, 3)},
	}
}

func faultyWords() []faultyWord {
	x := word("x")
	l := []faultyWord{
		{"zero word", api.Word{}, fault(api.ErrName, 0)},
		{"variable with Args", word("x", x), fault(api.ErrSize, 0)},
		{"variable with Args ahead of these", word("x", word("")), fault(api.ErrSize, 0)},
		{"variable with Args, deeper", word("F", x, word("G", x, word("y", x))), fault(api.ErrSize, 4)},
		{"name ahead of size", word("xX", x), fault(api.ErrName, 0)},
		{"name ahead of Args", word("1", word("")), fault(api.ErrName, 0)},
		{"two numbers of Args", word("F", word("F", x, x)), fault(api.ErrForm, 1)},
		{"two numbers of Args, side by side", word("G", word("F", x), word("F")), fault(api.ErrForm, 3)},
		{"places ahead of a fault behind them", word("G", word("F", x), word("F"), word("")), fault(api.ErrForm, 3)},
		{"one node too many", nested(api.MaxNodes, x), fault(api.ErrMany, 0)},
		{"one Arg too many", word("F", many(api.MaxNodes, "x")...), fault(api.ErrMany, 0)},
		{"fault at the last node that is looked at", nested(api.MaxNodes-1, word("")), fault(api.ErrName, api.MaxNodes-1)},
		{"fault behind it", nested(api.MaxNodes, word("")), fault(api.ErrMany, 0)},
		{"endless", endlessWord(), fault(api.ErrMany, 0)},
		{"doubled", doubledWord(60), fault(api.ErrMany, 0)},
		{"deep", nested(50000, x), fault(api.ErrMany, 0)},
		{"very many Args", word("F", many(1<<20, "x")...), fault(api.ErrMany, 0)},
	}
	for _, s := range notNames() {
		l = append(l, faultyWord{"no name " + short(s), word("F", x, word(s)), fault(api.ErrName, 2)})
	}
	return l
}
