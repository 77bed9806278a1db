// Package bag has lists of formulas in which the order does not matter, but how often a formula is there does.
package bag

import (
	"slices"

	"sequent/api"
)

// Same tells whether f and g are the same formula. It ends, if one of them does: the other may hold itself.
func Same(f, g api.Formula) bool {
	return f.Kind == g.Kind && f.Name == g.Name && slices.EqualFunc(f.Kids, g.Kids, Same)
}

// Has tells whether f is in l.
func Has(l []api.Formula, f api.Formula) bool {
	return place(l, f) >= 0
}

// With answers l with more behind it, as a new list: l's own memory may go on behind its length, and is not ours.
func With(l []api.Formula, more ...api.Formula) []api.Formula {
	return slices.Concat(l, more)
}

// Without answers l without one f, as a new list; all of l, if f is not in it.
func Without(l []api.Formula, f api.Formula) []api.Formula {
	at := place(l, f)
	if at < 0 {
		return slices.Clone(l)
	}
	return slices.Concat(l[:at], l[at+1:])
}

// IsWithin tells whether no formula is in l more often than in whole.
func IsWithin(l, whole []api.Formula) bool {
	rest := slices.Clone(whole)
	for _, f := range l {
		at := place(rest, f)
		if at < 0 {
			return false
		}
		rest = slices.Delete(rest, at, at+1)
	}
	return true
}

// IsEqual tells whether each formula is in l as often as in m.
func IsEqual(l, m []api.Formula) bool {
	return len(l) == len(m) && IsWithin(l, m)
}

// place is where f is in l first, or -1.
func place(l []api.Formula, f api.Formula) int {
	isThis := func(g api.Formula) bool { return Same(f, g) }
	return slices.IndexFunc(l, isThis)
}
