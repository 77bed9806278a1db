package lambda

import (
	"slices"

	"sequent/api"
	"sequent/parts"
	"sequent/stop"
)

// typer tells the types of nodes, as numbers of a table: types are the same just if their numbers are.
type typer struct {
	table *parts.Table
	names []int // the types of the names around a node, the innermost last
	seen  int
}

func newTyper(ctx []api.Formula) *typer {
	y := &typer{table: parts.New()}
	for _, f := range slices.Backward(ctx) {
		y.names = append(y.names, y.number(f))
	}
	return y
}

// number is that of the type for which f stands.
func (y *typer) number(f api.Formula) int {
	p := parts.Part{Kind: f.Kind, Name: f.Name, Count: len(f.Kids)}
	for i, k := range f.Kids {
		p.Kids[i] = y.number(k)
	}
	if f.Kind == api.FNot {
		return y.joined(api.FThen, p.Kids[0], y.table.NumberOf(parts.Part{Kind: api.FFalse}))
	}
	return y.table.NumberOf(p)
}

func (y *typer) joined(kind, a, b int) int {
	return y.table.NumberOf(parts.Part{Kind: kind, Count: 2, Kids: [2]int{a, b}})
}

// typeOf is the type of t, of whose form checkTerm says nothing. Where types do not go together it is told of a node behind its Kids.
func (y *typer) typeOf(t api.Term) int {
	at := y.seen
	y.seen++
	switch t.Kind {
	case api.TVar:
		return y.nameType(t.I, at)
	case api.TLam:
		a := y.number(t.Of)
		return y.joined(api.FThen, a, y.typeUnder(a, t.Kids[0]))
	case api.TApp:
		f, u := y.typeOf(t.Kids[0]), y.typeOf(t.Kids[1])
		a, b := y.sidesOf(f, api.FThen, at)
		mustBeSame(a, u, at)
		return b
	case api.TPair:
		a, b := y.typeOf(t.Kids[0]), y.typeOf(t.Kids[1])
		return y.joined(api.FAnd, a, b)
	case api.TFirst:
		a, _ := y.sidesOf(y.typeOf(t.Kids[0]), api.FAnd, at)
		return a
	case api.TSecond:
		_, b := y.sidesOf(y.typeOf(t.Kids[0]), api.FAnd, at)
		return b
	case api.TLeft, api.TRight:
		return y.sideType(t, at)
	case api.TCase:
		return y.caseType(t, at)
	case api.TAbsurd:
		y.sidesOf(y.typeOf(t.Kids[0]), api.FFalse, at)
		return y.number(t.Of)
	}
	return y.table.NumberOf(parts.Part{Kind: api.FTrue}) // TUnit: there is no other kind
}

func (y *typer) nameType(i, at int) int {
	if i < 0 || i >= len(y.names) {
		stop.At(api.ErrRange, at)
	}
	return y.names[len(y.names)-1-i]
}

// typeUnder is the type of t with one name more, of the type a.
func (y *typer) typeUnder(a int, t api.Term) int {
	y.names = append(y.names, a)
	n := y.typeOf(t)
	y.names = y.names[:len(y.names)-1]
	return n
}

func (y *typer) sideType(t api.Term, at int) int {
	n := y.typeOf(t.Kids[0])
	of := y.number(t.Of)
	a, b := y.sidesOf(of, api.FOr, at)
	if t.Kind == api.TRight {
		a = b
	}
	mustBeSame(a, n, at)
	return of
}

// caseType looks at the type of t's first Kid ahead of going on, as the names of the others have their types of it.
func (y *typer) caseType(t api.Term, at int) int {
	a, b := y.sidesOf(y.typeOf(t.Kids[0]), api.FOr, at)
	u := y.typeUnder(a, t.Kids[1])
	v := y.typeUnder(b, t.Kids[2])
	mustBeSame(u, v, at)
	return u
}

// sidesOf are the Kids of the type n, which must be of the kind.
func (y *typer) sidesOf(n, kind, at int) (a, b int) {
	p := y.table.Part(n)
	if p.Kind != kind {
		stop.At(api.ErrFalse, at)
	}
	return p.Kids[0], p.Kids[1]
}

func mustBeSame(n, m, at int) {
	if n != m {
		stop.At(api.ErrFalse, at)
	}
}
