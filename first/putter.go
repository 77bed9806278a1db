package first

import (
	"slices"
	"strings"

	"sequent/api"
	"sequent/syntax"
)

// putter puts a word for a variable, and other names for bound variables that would catch one of the word's.
type putter struct {
	put    api.Bind
	caught []string
	// names stand nowhere else, so that they neither catch nor are caught.
	names *syntax.Names
}

func newPutter(e api.Expr, name string, w api.Word) *putter {
	in := syntax.Variables(w)
	names := syntax.NewNames("", slices.Concat(syntax.AllVariables(e), in))
	return &putter{put: api.Bind{Name: name, Word: w}, caught: in, names: names}
}

func (p *putter) whole(e api.Expr) api.Expr {
	return p.expr(e, []api.Bind{p.put})
}

// expr is e in new memory, with what binds puts for its variables.
func (p *putter) expr(e api.Expr, binds []api.Bind) api.Expr {
	out := api.Expr{Kind: e.Kind, Name: strings.Clone(e.Name), Words: syntax.PutAll(e.Words, binds)}
	if syntax.IsQuantifier(e.Kind) {
		out.Name = p.boundName(e)
		binds = append(binds, api.Bind{Name: e.Name, Word: api.Word{Name: out.Name}})
	}
	for _, k := range e.Kids {
		out.Kids = append(out.Kids, p.expr(k, binds))
	}
	return out
}

// boundName is what e's variable is called in the answer: it keeps its name where that catches nothing.
func (p *putter) boundName(e api.Expr) string {
	if slices.Contains(p.caught, e.Name) && slices.Contains(freeIn(e), p.put.Name) {
		return p.names.Next()
	}
	return strings.Clone(e.Name)
}
