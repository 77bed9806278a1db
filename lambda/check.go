package lambda

import (
	"sequent/api"
	"sequent/stop"
)

func checkContext(ctx []api.Formula) {
	if len(ctx) > mostContext {
		stop.At(api.ErrMany, 0)
	}
	for at, f := range ctx {
		if e := plainFault(f); e.Code != api.OK {
			stop.At(e.Code, at)
		}
	}
}

// checkTerm looks at the form of t's nodes, and tells how many there are. Types come later: a fault of form at any node goes ahead of them.
func checkTerm(t api.Term) (nodes int) {
	c := checker{}
	c.look(t)
	return c.seen
}

// checker looks at nodes, each ahead of its Kids.
type checker struct {
	seen int
}

// look ends even where Kids hold themselves, as it counts nodes ahead of going on.
func (c *checker) look(t api.Term) {
	at := c.seen
	if at == api.MaxTerm {
		stop.At(api.ErrMany, 0)
	}
	c.seen++
	checkNode(t, at)
	for _, k := range t.Kids {
		c.look(k)
	}
}

func checkNode(t api.Term, at int) {
	kids, asks, known := shapeOf(t.Kind)
	if !known {
		stop.At(api.ErrKind, at)
	}
	if len(t.Kids) != kids {
		stop.At(api.ErrSize, at)
	}
	if asks && !fits(t) || !asks && !isZero(t.Of) || t.Kind != api.TVar && t.I != 0 {
		stop.At(api.ErrForm, at)
	}
}

// shapeOf tells how many Kids a term of the kind has, and whether it asks for an Of, if there is such a kind.
func shapeOf(kind int) (kids int, asks, known bool) {
	switch kind {
	case api.TVar, api.TUnit:
		return 0, false, true
	case api.TFirst, api.TSecond:
		return 1, false, true
	case api.TApp, api.TPair:
		return 2, false, true
	case api.TCase:
		return 3, false, true
	case api.TLam, api.TLeft, api.TRight, api.TAbsurd:
		return 1, true, true
	}
	return 0, false, false
}

// fits: may Of stand where t asks for it?
func fits(t api.Term) bool {
	isSide := t.Kind == api.TLeft || t.Kind == api.TRight
	return plainFault(t.Of).Code == api.OK && (!isSide || t.Of.Kind == api.FOr)
}

func isZero(f api.Formula) bool {
	return f.Kind == 0 && f.Name == "" && len(f.Kids) == 0
}
