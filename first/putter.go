package first

import (
	"slices"
	"strings"

	"sequent/api"
)

// putter puts a word for a variable, and other names for bound variables that would catch one of the word's.
type putter struct {
	put    api.Bind
	caught []string
	taken  []string
	next   int
}

func newPutter(e api.Expr, name string, w api.Word) *putter {
	in := variables(w)
	return &putter{put: api.Bind{Name: name, Word: w}, caught: in, taken: slices.Concat(namesIn(e), in)}
}

func (p *putter) whole(e api.Expr) api.Expr {
	return p.expr(e, []api.Bind{p.put})
}

// expr is e in new memory, with what binds puts for its variables.
func (p *putter) expr(e api.Expr, binds []api.Bind) api.Expr {
	out := api.Expr{Kind: e.Kind, Name: strings.Clone(e.Name), Words: putAll(e.Words, binds)}
	if isQuantifier(e.Kind) {
		out.Name = p.boundName(e)
		binds = append(binds, api.Bind{Name: e.Name, Word: api.Word{Name: out.Name}})
	}
	for _, k := range e.Kids {
		out.Kids = append(out.Kids, p.expr(k, binds))
	}
	return out
}

// boundName is what e's variable is called in the answer: it keeps its name where that catches nothing.
func (p *putter) boundName(e api.Expr) string {
	if slices.Contains(p.caught, e.Name) && slices.Contains(freeIn(e), p.put.Name) {
		return p.newName()
	}
	return strings.Clone(e.Name)
}

// newName is a variable that stands nowhere else, so that it neither catches nor is caught.
func (p *putter) newName() string {
	for {
		name := nthName(p.next)
		p.next++
		if !slices.Contains(p.taken, name) {
			return name
		}
	}
}

func putAll(l []api.Word, binds []api.Bind) []api.Word {
	var out []api.Word
	for _, w := range l {
		out = append(out, putInto(w, binds))
	}
	return out
}

// putInto goes by the innermost of binds that speaks of a name, which hides those around it.
func putInto(w api.Word, binds []api.Bind) api.Word {
	for _, b := range slices.Backward(binds) {
		if b.Name == w.Name {
			return copyOf(b.Word)
		}
	}
	return api.Word{Name: strings.Clone(w.Name), Args: putAll(w.Args, binds)}
}

func copyOf(w api.Word) api.Word { return putInto(w, nil) }
