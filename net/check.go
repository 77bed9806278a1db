package net

import (
	"sequent/api"
	"sequent/formula"
	"sequent/stop"
)

// mostFormulas is how many formulas a list may have.
const mostFormulas = 20

func checkList(l []api.Linear) {
	if len(l) < 1 || len(l) > mostFormulas {
		stop.At(api.ErrMany, 0)
	}
	c := checker{}
	for _, f := range l {
		c.look(f)
	}
}

// checker looks at nodes, each ahead of its Kids; it counts them through all formulas of a list.
type checker struct {
	seen int
}

// look ends even where Kids hold themselves, as it counts nodes ahead of going on.
func (c *checker) look(f api.Linear) {
	at := c.seen
	if at == api.MaxNodes {
		stop.At(api.ErrMany, 0)
	}
	c.seen++
	checkNode(f, at)
	for _, k := range f.Kids {
		c.look(k)
	}
}

func checkNode(f api.Linear, at int) {
	kids, known := kidsOf(f.Kind)
	if !known {
		stop.At(api.ErrKind, at)
	}
	if len(f.Kids) != kids {
		stop.At(api.ErrSize, at)
	}
	isAtom := f.Kind == api.LAtom
	if isAtom && !isName(f.Name) || !isAtom && (f.Name != "" || f.Not) {
		stop.At(api.ErrName, at)
	}
}

// kidsOf tells how many Kids a formula of the kind has, if there is such a kind.
func kidsOf(kind int) (kids int, known bool) {
	switch kind {
	case api.LAtom:
		return 0, true
	case api.LTensor, api.LPar:
		return 2, true
	}
	return 0, false
}

// isName asks layer 1, so that names are the same in all layers.
func isName(s string) bool {
	return formula.Check(api.Formula{Kind: api.FVar, Name: s}).Code == api.OK
}
