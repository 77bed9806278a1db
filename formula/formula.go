// Package formula reads, prints and takes apart formulas of propositions: see doc/01-formula.md.
package formula

import (
	"slices"
	"strings"

	"sequent/api"
	"sequent/bag"
	"sequent/scan"
	"sequent/stop"
)

// Check tells the first fault of f, node by node.
func Check(f api.Formula) api.Fault {
	return stop.Caught(func() {
		c := checker{}
		c.look(f)
	})
}

// Parse reads a formula.
func Parse(text string) (f api.Formula, e api.Fault) {
	if len(text) > api.MaxText {
		return api.Formula{}, api.Fault{Code: api.ErrMany}
	}
	e = stop.Caught(func() {
		r := reader{Text: scan.New(text)}
		f = r.whole()
	})
	return f, e
}

// Print writes f as Parse reads it, with as few brackets as that allows.
func Print(f api.Formula) (string, api.Fault) {
	if e := Check(f); e.Code != api.OK {
		return "", e
	}
	w := writer{}
	w.write(f, bindThen)
	return w.out.String(), api.Fault{}
}

// Names tells all names in f, each once, rising.
func Names(f api.Formula) ([]string, api.Fault) {
	if e := Check(f); e.Code != api.OK {
		return nil, e
	}
	var names []string
	eachNode(f, func(n api.Formula) {
		if n.Kind == api.FVar {
			names = append(names, strings.Clone(n.Name))
		}
	})
	slices.Sort(names)
	return slices.Compact(names), api.Fault{}
}

// Parts tells all formulas that stand at f's nodes, each once, in the order in which they come first.
func Parts(f api.Formula) ([]api.Formula, api.Fault) {
	if e := Check(f); e.Code != api.OK {
		return nil, e
	}
	var parts []api.Formula
	eachNode(f, func(n api.Formula) {
		if !bag.Has(parts, n) {
			parts = append(parts, copyOf(n))
		}
	})
	return parts, api.Fault{}
}

// Put answers f with g wherever f has the name.
func Put(f api.Formula, name string, g api.Formula) (api.Formula, api.Fault) {
	if e := Check(f); e.Code != api.OK {
		return api.Formula{}, e
	}
	if e := Check(g); e.Code != api.OK {
		return api.Formula{}, e
	}
	if !isName(name) {
		return api.Formula{}, api.Fault{Code: api.ErrName}
	}
	if sizeWith(f, name, size(g)) > api.MaxNodes {
		return api.Formula{}, api.Fault{Code: api.ErrMuch}
	}
	return replaced(f, name, g), api.Fault{}
}
