package modlog

import (
	"cmp"
	"slices"

	"sequent/api"
	"sequent/parts"
	"sequent/set"
)

// world is told by what is true there. An FBox that is not true wants to see a world at which what is in it is not; an FDia that is true wants to see one at which it is. Such a world shows it.
type world struct {
	has   set.Set // the parts that are true
	wants set.Set // of FBox and FDia those that want to see a world
	shows set.Set // of FBox and FDia those that want to see one such as this
}

// worldsOf are all sets of parts that can be true at one world, as far as that is seen from it alone. Those that want the least come first, so that models stay small.
func worldsOf(table *parts.Table) []world {
	var l []world
	for has := range set.Set(1) << table.Len() {
		if isWhole(has, table) {
			l = append(l, worldOf(has, table))
		}
	}
	slices.SortStableFunc(l, func(a, b world) int { return cmp.Compare(a.wants.Len(), b.wants.Len()) })
	return l
}

// isWhole: is each part in has just if its Kids make it true?
func isWhole(has set.Set, table *parts.Table) bool {
	for n := range table.Len() {
		if has.Has(n) != isTrue(n, has, table) {
			return false
		}
	}
	return true
}

// isTrue tells of a part what its Kids make of it. Nothing at the same world speaks against a name, an FBox or an FDia, true or not.
func isTrue(n int, has set.Set, table *parts.Table) bool {
	p := table.Part(n)
	first, second := has.Has(p.Kids[0]), has.Has(p.Kids[1])
	switch p.Kind {
	case api.FTrue:
		return true
	case api.FFalse:
		return false
	case api.FNot:
		return !first
	case api.FAnd:
		return first && second
	case api.FOr:
		return first || second
	case api.FThen:
		return !first || second
	}
	return has.Has(n)
}

func worldOf(has set.Set, table *parts.Table) world {
	w := world{has: has}
	for n := range table.Len() {
		p := table.Part(n)
		if p.Kind != api.FBox && p.Kind != api.FDia {
			continue
		}
		if has.Has(n) == (p.Kind == api.FDia) {
			w.wants = w.wants.With(n)
		}
		if has.Has(p.Kids[0]) == (p.Kind == api.FDia) {
			w.shows = w.shows.With(n)
		}
	}
	return w
}
