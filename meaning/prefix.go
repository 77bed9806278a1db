package meaning

import (
	"slices"
	"strings"

	"sequent/api"
	"sequent/syntax"
)

// prefix has quantifiers that are to stand ahead of an expression, each with a variable of its own.
type prefix struct {
	list  []api.Expr // without Kids
	taken []string
	names *syntax.Names
}

func newPrefix(e api.Expr, free []string) *prefix {
	return &prefix{taken: free, names: syntax.NewNames("", syntax.AllVariables(e))}
}

// add answers what the quantifier's variable is called: it keeps its name where that is not free in the expression, nor bound by one ahead.
func (p *prefix) add(kind int, name string) api.Word {
	if slices.Contains(p.taken, name) {
		name = p.names.Next()
	}
	p.taken = append(p.taken, name)
	p.list = append(p.list, api.Expr{Kind: kind, Name: strings.Clone(name)})
	return api.Word{Name: name}
}

// before is e with the quantifiers ahead of it.
func (p *prefix) before(e api.Expr) api.Expr {
	for _, q := range slices.Backward(p.list) {
		q.Kids = []api.Expr{e}
		e = q
	}
	return e
}

// matrix is e in new memory without its quantifiers: wherever one bound its variable, there is the word that is answered of it. This is asked from the outermost to the innermost, with the kind that the quantifier has ahead of all of e, and with what was answered of those around it.
func matrix(e api.Expr, isTurned bool, binds []api.Bind, wordFor func(kind int, q api.Expr, binds []api.Bind) api.Word) api.Expr {
	if syntax.IsQuantifier(e.Kind) {
		w := wordFor(kindAhead(e.Kind, isTurned), e, binds)
		return matrix(e.Kids[0], isTurned, append(binds, api.Bind{Name: e.Name, Word: w}), wordFor)
	}
	out := api.Expr{Kind: e.Kind, Name: strings.Clone(e.Name), Words: syntax.PutAll(e.Words, binds)}
	for i, k := range e.Kids {
		out.Kids = append(out.Kids, matrix(k, isTurned != turns(e.Kind, i), binds, wordFor))
	}
	return out
}

// turns tells whether the Kid makes an expression of the kind true by being false: all and some change places, where a quantifier is taken out of it.
func turns(kind, kid int) bool {
	return kind == api.ENot || kind == api.EThen && kid == 0
}

func kindAhead(kind int, isTurned bool) int {
	if !isTurned {
		return kind
	}
	return api.EAll + api.ESome - kind
}
