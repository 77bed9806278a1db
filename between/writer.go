package between

import (
	"sequent/api"
	"sequent/bag"
)

// written is a formula of the names that is true just where isSo is, beside what is held already.
//
// It decides name by name. What is true in the same rows is written in the same way, and needs at most 1, 2, 8, 20 nodes for 0, 1, 2, 3 names, and twice as many and 5 for each name more: 195 for MaxNames. So formula.Check passes all that is written.
func written(names, held []string, isSo func(held []string) bool) api.Formula {
	if len(names) > 0 {
		ifTrue := written(names[1:], with(held, names[0]), isSo)
		ifFalse := written(names[1:], held, isSo)
		return decided(names[0], ifTrue, ifFalse)
	}
	if isSo(held) {
		return made(api.FTrue)
	}
	return made(api.FFalse)
}

// decided is one of two formulas, as the name is true or false.
func decided(name string, ifTrue, ifFalse api.Formula) api.Formula {
	n := api.Formula{Kind: api.FVar, Name: name}
	switch {
	case bag.Same(ifTrue, ifFalse):
		return ifTrue
	case ifTrue.Kind == api.FTrue && ifFalse.Kind == api.FFalse:
		return n
	case ifTrue.Kind == api.FFalse && ifFalse.Kind == api.FTrue:
		return made(api.FNot, n)
	case ifTrue.Kind == api.FTrue:
		return either(n, ifFalse)
	case ifTrue.Kind == api.FFalse:
		return made(api.FAnd, made(api.FNot, n), ifFalse)
	case ifFalse.Kind == api.FTrue:
		return made(api.FThen, n, ifTrue)
	case ifFalse.Kind == api.FFalse:
		return made(api.FAnd, n, ifTrue)
	}
	return made(api.FAnd, made(api.FThen, n, ifTrue), either(n, ifFalse))
}

// either saves a node where g says that something is not so: without that, the bound of written would be above MaxNodes.
func either(f, g api.Formula) api.Formula {
	if g.Kind == api.FNot {
		return made(api.FThen, g.Kids[0], f)
	}
	return made(api.FOr, f, g)
}

func made(kind int, kids ...api.Formula) api.Formula {
	return api.Formula{Kind: kind, Kids: kids}
}
