package kripke

import (
	"slices"

	"sequent/api"
	"sequent/set"
)

// counter is a model whose world 0 speaks against g, of which there is no proof. Each world is a set of parts, and forces just these: it sees those that have all of its own.
func (f *finder) counter(g goal) api.Model {
	worlds := []set.Set{f.grown(g)}
	for at := 0; at < len(worlds); at++ {
		for _, wanted := range f.wantedBy(worlds[at]) {
			isSuch := func(w set.Set) bool { return wanted.left.IsWithin(w) && !w.Has(wanted.right) }
			if !slices.ContainsFunc(worlds, isSuch) {
				worlds = append(worlds, f.grown(wanted))
			}
		}
	}
	return f.modelOf(worlds)
}

// grown is g's Left with as much as it can have while there is no proof. It then has all that follows of it, and of an FOr that it has one of both.
func (f *finder) grown(g goal) set.Set {
	for n := range f.table.Len() {
		more := goal{left: g.left.With(n), right: g.right}
		if !f.isProved(more) {
			g = more
		}
	}
	return g.left
}

// wantedBy tells what w must see, as it does not force each FThen and FNot: worlds with all of Left, and without Right.
func (f *finder) wantedBy(w set.Set) []goal {
	var wanted []goal
	for n := range f.table.Len() {
		p := f.table.Part(n)
		switch {
		case w.Has(n):
		case p.Kind == api.FThen:
			wanted = append(wanted, goal{left: w.With(p.Kids[0]), right: p.Kids[1]})
		case p.Kind == api.FNot:
			wanted = append(wanted, goal{left: w.With(p.Kids[0]), right: nothing})
		}
	}
	return wanted
}

func (f *finder) modelOf(worlds []set.Set) api.Model {
	m := api.Model{N: len(worlds)}
	for from, w := range worlds {
		for to, other := range worlds {
			if w.IsWithin(other) {
				m.Rel = append(m.Rel, [2]int{from, to})
			}
		}
		m.True = append(m.True, f.namesIn(w))
	}
	return m
}

// namesIn are the names in w, rising.
func (f *finder) namesIn(w set.Set) []string {
	var names []string
	for _, n := range w.Members(f.table.Len()) {
		if p := f.table.Part(n); p.Kind == api.FVar {
			names = append(names, p.Name)
		}
	}
	slices.Sort(names)
	return names
}
