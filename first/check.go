package first

import (
	"sequent/api"
	"sequent/stop"
	"sequent/syntax"
)

// checker looks at nodes, each ahead of those in it. How many places a big name has is kept of predicates and of functions apart.
type checker struct {
	seen       int
	predicates map[string]int
	functions  map[string]int
}

func newChecker() *checker {
	return &checker{predicates: map[string]int{}, functions: map[string]int{}}
}

func (c *checker) expr(e api.Expr) {
	at := c.next()
	checkExpr(e, at)
	if e.Kind == api.EPred {
		checkPlaces(c.predicates, e.Name, len(e.Words), at)
	}
	for _, w := range e.Words {
		c.word(w)
	}
	for _, k := range e.Kids {
		c.expr(k)
	}
}

func (c *checker) word(w api.Word) {
	at := c.next()
	checkWord(w, at)
	if syntax.IsBig(w.Name) {
		checkPlaces(c.functions, w.Name, len(w.Args), at)
	}
	for _, a := range w.Args {
		c.word(a)
	}
}

// next is the number of the node that is come to. As nodes are counted ahead of going on, a walk ends even where lists hold themselves.
func (c *checker) next() int {
	if c.seen == api.MaxNodes {
		stop.At(api.ErrMany, 0)
	}
	c.seen++
	return c.seen - 1
}

func checkExpr(e api.Expr, at int) {
	kids, known := kidsOf(e.Kind)
	if !known {
		stop.At(api.ErrKind, at)
	}
	if !hasItsWords(e) || len(e.Kids) != kids {
		stop.At(api.ErrSize, at)
	}
	if !hasItsName(e) {
		stop.At(api.ErrName, at)
	}
}

func checkWord(w api.Word, at int) {
	if !syntax.IsName(w.Name) {
		stop.At(api.ErrName, at)
	}
	if len(w.Args) > 0 && syntax.IsVariable(w.Name) {
		stop.At(api.ErrSize, at)
	}
}

// checkPlaces holds a number of places against that at the nodes ahead, and keeps it.
func checkPlaces(ahead map[string]int, name string, places, at int) {
	if was, known := ahead[name]; known && was != places {
		stop.At(api.ErrForm, at)
	}
	ahead[name] = places
}

// kidsOf tells how many Kids an expression of the kind has, if there is such a kind.
func kidsOf(kind int) (kids int, known bool) {
	switch kind {
	case api.EPred, api.ESame, api.ETrue, api.EFalse:
		return 0, true
	case api.ENot, api.EAll, api.ESome:
		return 1, true
	case api.EAnd, api.EOr, api.EThen:
		return 2, true
	}
	return 0, false
}

func hasItsWords(e api.Expr) bool {
	switch e.Kind {
	case api.EPred:
		return true
	case api.ESame:
		return len(e.Words) == 2
	}
	return len(e.Words) == 0
}

func hasItsName(e api.Expr) bool {
	switch {
	case e.Kind == api.EPred:
		return syntax.IsBig(e.Name)
	case syntax.IsQuantifier(e.Kind):
		return syntax.IsVariable(e.Name)
	}
	return e.Name == ""
}
