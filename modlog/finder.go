package modlog

import (
	"slices"

	"sequent/api"
	"sequent/parts"
	"sequent/set"
)

// finder has the worlds of the greatest of a logic's models: at each world of any other one just the same parts are true as at one of these.
type finder struct {
	table  *parts.Table
	frames frames
	worlds []world
}

// newFinder begins with all that there might be. Worlds go, again and again, that do not see what they want among those that are left.
func newFinder(table *parts.Table, allowed frames) *finder {
	f := &finder{table: table, frames: allowed, worlds: worldsOf(table)}
	f.keep(f.isAllowed)
	for before := -1; before != len(f.worlds); {
		before = len(f.worlds)
		f.keep(f.isContent)
	}
	return f
}

// keep lets those go of which it is not so. The list stays as it is until all have been asked, as they look at each other.
func (f *finder) keep(is func(w world) bool) {
	var l []world
	for _, w := range f.worlds {
		if is(w) {
			l = append(l, w)
		}
	}
	f.worlds = l
}

// isAllowed: does w see itself, if each world has to?
func (f *finder) isAllowed(w world) bool { return !f.frames.itself || f.frames.sees(w, w) }

// isContent: does w see all that it wants, and some, if each world has to?
func (f *finder) isContent(w world) bool {
	shown, isSeeing := f.seenFrom(w, f.worlds)
	return shown == w.wants && (isSeeing || !f.frames.some)
}

// seenFrom tells what those of the worlds show that w sees, and whether it sees any. It is nothing but what w wants, as it sees no others.
func (f *finder) seenFrom(w world, worlds []world) (shown set.Set, isSeeing bool) {
	for _, v := range worlds {
		if f.frames.sees(w, v) {
			shown |= v.shows
			isSeeing = true
		}
	}
	return shown, isSeeing
}

// without is the first world at which the part with this number is not true.
func (f *finder) without(number int) (w world, found bool) {
	at := slices.IndexFunc(f.worlds, func(w world) bool { return !w.has.Has(number) })
	if at < 0 {
		return world{}, false
	}
	return f.worlds[at], true
}

// modelFrom is a model whose world 0 is w: with worlds for what w wants, and what these want in turn.
func (f *finder) modelFrom(w world) api.Model {
	chosen := []world{w}
	for at := 0; at < len(chosen); at++ {
		chosen = f.filled(chosen, chosen[at])
	}
	return f.modelOf(chosen)
}

// filled is chosen with as many worlds more as w needs in order to see what it wants.
func (f *finder) filled(chosen []world, w world) []world {
	shown, isSeeing := f.seenFrom(w, chosen)
	for _, v := range f.worlds {
		isNeeded := !v.shows.IsWithin(shown) || f.frames.some && !isSeeing
		if isNeeded && f.frames.sees(w, v) {
			chosen = append(chosen, v)
			shown |= v.shows
			isSeeing = true
		}
	}
	return chosen
}

func (f *finder) modelOf(worlds []world) api.Model {
	m := api.Model{N: len(worlds)}
	for from, w := range worlds {
		for to, v := range worlds {
			if f.frames.sees(w, v) {
				m.Rel = append(m.Rel, [2]int{from, to})
			}
		}
		m.True = append(m.True, f.namesAt(w))
	}
	return m
}

// namesAt are the names that are true at w, rising.
func (f *finder) namesAt(w world) []string {
	var names []string
	for _, n := range w.has.Members(f.table.Len()) {
		if p := f.table.Part(n); p.Kind == api.FVar {
			names = append(names, p.Name)
		}
	}
	slices.Sort(names)
	return names
}
