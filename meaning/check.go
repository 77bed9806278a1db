package meaning

import (
	"slices"

	"sequent/api"
	"sequent/stop"
	"sequent/syntax"
)

// checker looks at functions, or at predicates, one by one.
type checker struct {
	things int
	ahead  map[string]int // their numbers
}

func newChecker(things int) checker {
	return checker{things: things, ahead: map[string]int{}}
}

// look is told how many places are filled.
func (c checker) look(name string, arity, filled, at int) {
	if _, known := c.ahead[name]; known || !syntax.IsBig(name) {
		stop.At(api.ErrName, at)
	}
	if arity < 0 || arity > mostPlaces {
		stop.At(api.ErrRange, at)
	}
	if filled != power(c.things, arity) {
		stop.At(api.ErrSize, at)
	}
	c.ahead[name] = at
}

// listsFault takes the lists of s to be short, and the number of its things to be right.
func listsFault(s api.Structure) api.Fault {
	funs, preds := newChecker(s.N), newChecker(s.N)
	isNoThing := func(value int) bool { return !isThing(s.N, value) }
	return stop.Caught(func() {
		for at, f := range s.Funs {
			funs.look(f.Name, f.Arity, len(f.Table), at)
			if slices.ContainsFunc(f.Table, isNoThing) {
				stop.At(api.ErrForm, at)
			}
		}
		for i, p := range s.Preds {
			preds.look(p.Name, p.Arity, len(p.Bits), len(s.Funs)+i)
		}
	})
}

func valuesFault(things int, names []string, values []int) api.Fault {
	if len(names) != len(values) || len(names) > mostValues {
		return api.Fault{Code: api.ErrSize}
	}
	for at, name := range names {
		if !syntax.IsVariable(name) {
			return api.Fault{Code: api.ErrName, At: at}
		}
		if !isThing(things, values[at]) {
			return api.Fault{Code: api.ErrRange, At: at}
		}
	}
	return api.Fault{}
}

func isThing(things, value int) bool { return 0 <= value && value < things }

func power(base, exponent int) int {
	p := 1
	for range exponent {
		p *= base
	}
	return p
}
