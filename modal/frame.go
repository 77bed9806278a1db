package modal

import (
	"sequent/api"
	"sequent/set"
)

// frame has of each world what it sees: a model without what is true at its worlds.
type frame []set.Set

// frameOf takes m to be a model of which kripke.Check says nothing.
func frameOf(m api.Model) frame {
	r := make(frame, m.N)
	for _, pair := range m.Rel {
		r[pair[0]] = r[pair[0]].With(pair[1])
	}
	return r
}

// those are the worlds of which it is so, going by what they see.
func (r frame) those(is func(sees set.Set) bool) set.Set {
	var s set.Set
	for w, sees := range r {
		if is(sees) {
			s = s.With(w)
		}
	}
	return s
}

// where are the worlds at which f is true; having tells it of a name.
func (r frame) where(f api.Formula, having func(name string) set.Set) set.Set {
	var of [2]set.Set
	for i, k := range f.Kids {
		of[i] = r.where(k, having)
	}
	all := set.Below(len(r))
	switch f.Kind {
	case api.FVar:
		return having(f.Name)
	case api.FTrue:
		return all
	case api.FNot:
		return all.Without(of[0])
	case api.FAnd:
		return of[0] & of[1]
	case api.FOr:
		return of[0] | of[1]
	case api.FThen:
		return all.Without(of[0]) | of[1]
	case api.FBox:
		return r.those(func(sees set.Set) bool { return sees.IsWithin(of[0]) })
	case api.FDia:
		return r.those(func(sees set.Set) bool { return sees&of[0] != 0 })
	}
	return 0
}

// holds goes through all that might be true: a row has a digit for each world, name by name.
func (r frame) holds(f api.Formula, names []string) bool {
	all := set.Below(len(r))
	places := map[string]int{}
	for i, name := range names {
		places[name] = i
	}
	for row := range set.Set(1) << (len(r) * len(names)) {
		having := func(name string) set.Set { return row >> (len(r) * places[name]) & all }
		if r.where(f, having) != all {
			return false
		}
	}
	return true
}
