package syntax

import "sequent/api"

// IsQuantifier tells whether expressions of the kind bind a variable.
func IsQuantifier(kind int) bool { return kind == api.EAll || kind == api.ESome }

// EachExpr visits e and what is in it, each expression ahead of its Kids, with the names that are bound where it stands.
func EachExpr(e api.Expr, visit func(e api.Expr, bound []string)) {
	eachExpr(e, nil, visit)
}

func eachExpr(e api.Expr, bound []string, visit func(e api.Expr, bound []string)) {
	visit(e, bound)
	if IsQuantifier(e.Kind) {
		bound = append(bound, e.Name)
	}
	for _, k := range e.Kids {
		eachExpr(k, bound, visit)
	}
}

// EachWord visits the words and what is in them, each ahead of its Args.
func EachWord(l []api.Word, visit func(api.Word)) {
	for _, w := range l {
		visit(w)
		EachWord(w.Args, visit)
	}
}

// Variables are those in the words, as often as they stand there.
func Variables(l ...api.Word) []string {
	var names []string
	EachWord(l, func(w api.Word) {
		if IsVariable(w.Name) {
			names = append(names, w.Name)
		}
	})
	return names
}

// AllVariables are those of e, those behind its quantifiers, too, as often as they stand there.
func AllVariables(e api.Expr) []string {
	var names []string
	EachExpr(e, func(x api.Expr, _ []string) {
		names = append(names, Variables(x.Words...)...)
		if IsQuantifier(x.Kind) {
			names = append(names, x.Name)
		}
	})
	return names
}

// Size is how many nodes e has.
func Size(e api.Expr) int {
	n := 0
	EachExpr(e, func(x api.Expr, _ []string) { n += 1 + WordsSize(x.Words...) })
	return n
}

// WordsSize is how many nodes the words have.
func WordsSize(l ...api.Word) int {
	n := 0
	EachWord(l, func(api.Word) { n++ })
	return n
}
