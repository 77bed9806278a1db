package kripke

import "sequent/api"

// world is one of a model: its number, what it sees, and its names, which are the model's own.
type world struct {
	at    int
	sees  set
	names []string
}

// view is a model of which Check says nothing.
type view struct {
	worlds []world
	having map[string]set // of each name the worlds that have it
}

func viewOf(m api.Model) view {
	v := view{having: map[string]set{}}
	for at, names := range m.True {
		v.worlds = append(v.worlds, world{at: at, names: names})
		for _, name := range names {
			v.having[name] = v.having[name].with(at)
		}
	}
	for _, pair := range m.Rel {
		from := &v.worlds[pair[0]]
		from.sees = from.sees.with(pair[1])
	}
	return v
}

// isUngrown: does the model not grow at w?
func (v view) isUngrown(w world) bool {
	if !w.sees.has(w.at) {
		return true
	}
	for _, at := range w.sees.members(len(v.worlds)) {
		if !v.worlds[at].sees.isWithin(w.sees) {
			return true
		}
	}
	for _, name := range w.names {
		if !w.sees.isWithin(v.having[name]) {
			return true
		}
	}
	return false
}

// those are the worlds of which something is so.
func (v view) those(is func(w world) bool) set {
	var s set
	for _, w := range v.worlds {
		if is(w) {
			s = s.with(w.at)
		}
	}
	return s
}

// forcing are the worlds that force f, which is plain.
func (v view) forcing(f api.Formula) set {
	var of [2]set
	for i, k := range f.Kids {
		of[i] = v.forcing(k)
	}
	switch f.Kind {
	case api.FVar:
		return v.having[f.Name]
	case api.FTrue:
		return v.those(func(world) bool { return true })
	case api.FNot:
		return v.those(func(w world) bool { return w.sees&of[0] == 0 })
	case api.FAnd:
		return of[0] & of[1]
	case api.FOr:
		return of[0] | of[1]
	case api.FThen:
		return v.those(func(w world) bool { return (w.sees & of[0]).isWithin(of[1]) })
	}
	return 0
}
