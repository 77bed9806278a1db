package games

import (
	"slices"

	"sequent/api"
	"sequent/meaning"
)

// faultOf tells what is wrong with a question.
func faultOf(a, b api.Structure, n int) api.Fault {
	for _, look := range []func(s api.Structure) api.Fault{meaning.Check, kindFault} {
		for _, s := range []api.Structure{a, b} {
			if f := look(s); f.Code != api.OK {
				return f
			}
		}
	}
	if f := unlikeFault(a.Preds, b.Preds); f.Code != api.OK {
		return f
	}
	if n < 0 || n > mostRounds {
		return api.Fault{Code: api.ErrRange}
	}
	return api.Fault{}
}

// kindFault tells what s has that no game is played with.
func kindFault(s api.Structure) api.Fault {
	if len(s.Funs) > 0 {
		return api.Fault{Code: api.ErrKind}
	}
	isLarge := func(p api.Pred) bool { return p.Arity > mostPlaces }
	if at := slices.IndexFunc(s.Preds, isLarge); at >= 0 {
		return api.Fault{Code: api.ErrKind, At: at}
	}
	return api.Fault{}
}

// unlikeFault tells where two structures have not the same predicates.
func unlikeFault(l, m []api.Pred) api.Fault {
	if len(l) != len(m) {
		return api.Fault{Code: api.ErrSize}
	}
	for at, p := range l {
		if p.Name != m[at].Name || p.Arity != m[at].Arity {
			return api.Fault{Code: api.ErrSize, At: at}
		}
	}
	return api.Fault{}
}
