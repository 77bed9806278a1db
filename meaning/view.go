package meaning

import (
	"sequent/api"
	"sequent/syntax"
)

// view is a structure as an expression sees it: what its names mean, and which things the variables are now.
type view struct {
	things int
	funs   map[string]api.Fun
	preds  map[string]api.Pred
	values map[string]int
}

// viewOf takes s to be right, and names and values to go together.
func viewOf(s api.Structure, names []string, values []int) view {
	v := view{things: s.N, funs: map[string]api.Fun{}, preds: map[string]api.Pred{}, values: map[string]int{}}
	for _, f := range s.Funs {
		v.funs[f.Name] = f
	}
	for _, p := range s.Preds {
		v.preds[p.Name] = p
	}
	for i, name := range names {
		v.values[name] = values[i]
	}
	return v
}

// hasMeanings tells whether all big names of e mean something, of as many places.
func (v view) hasMeanings(e api.Expr) bool {
	has := true
	eachBigName(e, func(name string, isPred bool, places int) {
		if isPred {
			p, known := v.preds[name]
			has = has && known && p.Arity == places
		} else {
			f, known := v.funs[name]
			has = has && known && f.Arity == places
		}
	})
	return has
}

func (v view) hasValues(names []string) bool {
	for _, name := range names {
		if _, known := v.values[name]; !known {
			return false
		}
	}
	return true
}

// isTrue takes all names of e to have meanings and values.
func (v view) isTrue(e api.Expr) bool {
	switch e.Kind {
	case api.EPred:
		return v.preds[e.Name].Bits[v.place(e.Words)]
	case api.ESame:
		return v.thing(e.Words[0]) == v.thing(e.Words[1])
	case api.ETrue:
		return true
	case api.ENot:
		return !v.isTrue(e.Kids[0])
	case api.EAnd:
		return v.isTrue(e.Kids[0]) && v.isTrue(e.Kids[1])
	case api.EOr:
		return v.isTrue(e.Kids[0]) || v.isTrue(e.Kids[1])
	case api.EThen:
		return !v.isTrue(e.Kids[0]) || v.isTrue(e.Kids[1])
	case api.EAll:
		return !v.isForSome(e.Name, func() bool { return !v.isTrue(e.Kids[0]) })
	case api.ESome:
		return v.isForSome(e.Name, func() bool { return v.isTrue(e.Kids[0]) })
	}
	return false
}

// isForSome goes through the things that the variable may be. Behind it the variable is again what it was: it may be free there.
func (v view) isForSome(name string, is func() bool) bool {
	was, found := v.values[name], false
	for thing := 0; thing < v.things && !found; thing++ {
		v.values[name] = thing
		found = is()
	}
	v.values[name] = was
	return found
}

func (v view) thing(w api.Word) int {
	if f, known := v.funs[w.Name]; known {
		return f.Table[v.place(w.Args)]
	}
	return v.values[w.Name]
}

// place is where tables tell of these words.
func (v view) place(l []api.Word) int {
	at, step := 0, 1
	for _, w := range l {
		at += v.thing(w) * step
		step *= v.things
	}
	return at
}

// nested is how many quantifiers stand in one another.
func nested(e api.Expr) int {
	n := 0
	syntax.EachExpr(e, func(_ api.Expr, bound []string) { n = max(n, len(bound)) })
	return n
}
