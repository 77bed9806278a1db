// Package words has what the layers that make words the same have in common: what is wrong with a word by itself, and a graph in which words become the same.
package words

import (
	"sequent/api"
	"sequent/first"
)

// Fault is the code that chapter 13's Check would tell of the word alone.
func Fault(w api.Word) int {
	// That Check takes expressions. Put says what it would say of a word, and there is no x here that the word would be put for.
	_, f := first.Put(api.Expr{Kind: api.ETrue}, "x", w)
	return f.Code
}
