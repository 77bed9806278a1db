package first

import (
	"slices"

	"sequent/api"
)

// eachExpr visits e and what is in it, each expression ahead of its Kids, with the names that are bound where it stands.
func eachExpr(e api.Expr, bound []string, visit func(e api.Expr, bound []string)) {
	visit(e, bound)
	if isQuantifier(e.Kind) {
		bound = append(bound, e.Name)
	}
	for _, k := range e.Kids {
		eachExpr(k, bound, visit)
	}
}

// eachWord visits the words and what is in them, each ahead of its Args.
func eachWord(l []api.Word, visit func(api.Word)) {
	for _, w := range l {
		visit(w)
		eachWord(w.Args, visit)
	}
}

// variables are those in the words, as often as they stand there.
func variables(l ...api.Word) []string {
	var names []string
	eachWord(l, func(w api.Word) {
		if isVariable(w.Name) {
			names = append(names, w.Name)
		}
	})
	return names
}

// freeIn has the variables that are free in e, as often as they stand there.
func freeIn(e api.Expr) []string {
	var names []string
	eachExpr(e, nil, func(x api.Expr, bound []string) {
		for _, name := range variables(x.Words...) {
			if !slices.Contains(bound, name) {
				names = append(names, name)
			}
		}
	})
	return names
}

// namesIn has all variables of e, those behind its quantifiers, too.
func namesIn(e api.Expr) []string {
	var names []string
	eachExpr(e, nil, func(x api.Expr, _ []string) {
		names = append(names, variables(x.Words...)...)
		if isQuantifier(x.Kind) {
			names = append(names, x.Name)
		}
	})
	return names
}

func size(e api.Expr) int {
	n := 0
	eachExpr(e, nil, func(x api.Expr, _ []string) { n += 1 + wordsSize(x.Words...) })
	return n
}

func wordsSize(l ...api.Word) int {
	n := 0
	eachWord(l, func(api.Word) { n++ })
	return n
}

// sizeWith is the size of e with w wherever the variable is free.
func sizeWith(e api.Expr, name string, w api.Word) int {
	n := size(e)
	for _, free := range freeIn(e) {
		if free == name {
			n += wordsSize(w) - 1
		}
	}
	return n
}
