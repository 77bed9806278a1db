package bisim

import (
	"slices"

	"sequent/api"
	"sequent/parts"
	"sequent/set"
)

// saying is a formula, by its number in the table, with the worlds at which it is true.
type saying struct {
	number int
	where  set.Set
}

func (t *teller) nodes(f saying) int { return t.table.Nodes(f.number) }

func (t *teller) always() saying {
	return t.made(api.FTrue, set.Below(len(t.sees)))
}

func (t *teller) never() saying {
	return t.made(api.FFalse, 0)
}

func (t *teller) name(name string) saying {
	number := t.table.NumberOf(parts.Part{Kind: api.FVar, Name: name})
	return saying{number, t.those(func(w int) bool { return slices.Contains(t.names[w], name) })}
}

func (t *teller) not(f saying) saying {
	return t.made(api.FNot, set.Below(len(t.sees)).Without(f.where), f)
}

// and leaves out what says nothing.
func (t *teller) and(f, g saying) saying {
	if f == t.always() {
		return g
	}
	return t.made(api.FAnd, f.where&g.where, f, g)
}

// or leaves out what says nothing.
func (t *teller) or(f, g saying) saying {
	if f == t.never() {
		return g
	}
	return t.made(api.FOr, f.where|g.where, f, g)
}

func (t *teller) box(f saying) saying {
	return t.made(api.FBox, t.those(func(w int) bool { return t.sees[w].IsWithin(f.where) }), f)
}

func (t *teller) dia(f saying) saying {
	return t.made(api.FDia, t.those(func(w int) bool { return t.sees[w]&f.where != 0 }), f)
}

func (t *teller) made(kind int, where set.Set, kids ...saying) saying {
	p := parts.Part{Kind: kind, Count: len(kids)}
	for i, k := range kids {
		p.Kids[i] = k.number
	}
	return saying{t.table.NumberOf(p), where}
}
