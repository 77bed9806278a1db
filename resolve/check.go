package resolve

import (
	"sequent/api"
	"sequent/syntax"
	"sequent/words"
)

// clauseFault is the code of the first fault of a clause by itself.
func clauseFault(c []api.Literal) int {
	if len(c) > mostLiterals {
		return api.ErrMany
	}
	for _, l := range c {
		if code := literalFault(l); code != api.OK {
			return code
		}
	}
	if size(c) > api.MaxNodes {
		return api.ErrMany
	}
	return api.OK
}

// literalFault takes each word by itself: a big name may have another number of Args in another one.
func literalFault(l api.Literal) int {
	if !syntax.IsBig(l.Name) {
		return api.ErrName
	}
	for _, w := range l.Words {
		if code := words.Fault(w); code != api.OK {
			return code
		}
	}
	return api.OK
}

// size is how many nodes the literals have. Their words are taken to be right by themselves.
func size(c []api.Literal) int {
	n := len(c)
	for _, l := range c {
		n += syntax.WordsSize(l.Words...)
	}
	return n
}
