package kripke

import (
	"sequent/api"
	"sequent/set"
)

// world is one of a model: its number, what it sees, and its names, which are the model's own.
type world struct {
	at    int
	sees  set.Set
	names []string
}

// view is a model of which Check says nothing.
type view struct {
	worlds []world
	having map[string]set.Set // of each name the worlds that have it
}

func viewOf(m api.Model) view {
	v := view{having: map[string]set.Set{}}
	for at, names := range m.True {
		v.worlds = append(v.worlds, world{at: at, names: names})
		for _, name := range names {
			v.having[name] = v.having[name].With(at)
		}
	}
	for _, pair := range m.Rel {
		from := &v.worlds[pair[0]]
		from.sees = from.sees.With(pair[1])
	}
	return v
}

// isUngrown: does the model not grow at w?
func (v view) isUngrown(w world) bool {
	if !w.sees.Has(w.at) {
		return true
	}
	for _, at := range w.sees.Members(len(v.worlds)) {
		if !v.worlds[at].sees.IsWithin(w.sees) {
			return true
		}
	}
	for _, name := range w.names {
		if !w.sees.IsWithin(v.having[name]) {
			return true
		}
	}
	return false
}

// those are the worlds of which something is so.
func (v view) those(is func(w world) bool) set.Set {
	var s set.Set
	for _, w := range v.worlds {
		if is(w) {
			s = s.With(w.at)
		}
	}
	return s
}

// forcing are the worlds that force f, which is plain.
func (v view) forcing(f api.Formula) set.Set {
	var of [2]set.Set
	for i, k := range f.Kids {
		of[i] = v.forcing(k)
	}
	switch f.Kind {
	case api.FVar:
		return v.having[f.Name]
	case api.FTrue:
		return v.those(func(world) bool { return true })
	case api.FNot:
		return v.those(func(w world) bool { return w.sees&of[0] == 0 })
	case api.FAnd:
		return of[0] & of[1]
	case api.FOr:
		return of[0] | of[1]
	case api.FThen:
		return v.those(func(w world) bool { return (w.sees & of[0]).IsWithin(of[1]) })
	}
	return 0
}
