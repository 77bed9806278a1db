package meaning

import (
	"slices"

	"sequent/api"
	"sequent/first"
	"sequent/syntax"
)

// eachBigName visits all big names of e, as often as they stand there, with the number of their places.
func eachBigName(e api.Expr, visit func(name string, isPred bool, places int)) {
	syntax.EachExpr(e, func(x api.Expr, _ []string) {
		if x.Kind == api.EPred {
			visit(x.Name, true, len(x.Words))
		}
		syntax.EachWord(x.Words, func(w api.Word) {
			if syntax.IsBig(w.Name) {
				visit(w.Name, false, len(w.Args))
			}
		})
	})
}

func bigNames(e api.Expr) []string {
	var names []string
	eachBigName(e, func(name string, _ bool, _ int) { names = append(names, name) })
	return names
}

// hangsOn are the variables on which the thing hangs that q says there is: q's free ones, or, where binds puts a word for one, those of the word. They are often fewer than all that are bound around q.
func hangsOn(q api.Expr, binds []api.Bind) []api.Word {
	free, _ := first.Free(q)
	names := syntax.Variables(syntax.PutAll(wordsOf(free), binds)...)
	slices.Sort(names)
	return wordsOf(slices.Compact(names))
}

func wordsOf(names []string) []api.Word {
	var l []api.Word
	for _, name := range names {
		l = append(l, api.Word{Name: name})
	}
	return l
}
