package first

import (
	"slices"

	"sequent/api"
	"sequent/syntax"
)

// freeIn has the variables that are free in e, as often as they stand there.
func freeIn(e api.Expr) []string {
	var names []string
	syntax.EachExpr(e, func(x api.Expr, bound []string) {
		for _, name := range syntax.Variables(x.Words...) {
			if !slices.Contains(bound, name) {
				names = append(names, name)
			}
		}
	})
	return names
}

// sizeWith is the size of e with w wherever the variable is free.
func sizeWith(e api.Expr, name string, w api.Word) int {
	n := syntax.Size(e)
	for _, free := range freeIn(e) {
		if free == name {
			n += syntax.WordsSize(w) - 1
		}
	}
	return n
}
