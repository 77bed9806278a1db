package lambda

import (
	"sequent/api"
	"sequent/parts"
)

// hand has of each part at the Left of a sequent a term of its type, by the part's number. Names are counted from the outermost on there, so that a term stays right under more names.
type hand [api.MaxSubs]api.Term

// programmer makes a proof a term, step by step. How often a formula is at the Left does not matter: one term of its type is as good as another.
type programmer struct {
	table *parts.Table
}

// programOf makes an intuitionistic proof of => f without cut a term of f's type. All formulas of the proof stand at f's nodes: the table has them from the beginning on.
func programOf(p api.Proof) api.Term {
	g := programmer{table: parts.New()}
	g.table.Number(p.End.Right[0])
	return g.termOf(p, hand{}, 0)
}

// termOf is a term of the type of what is at the Right, under so many names; of 0, if nothing is there.
func (g *programmer) termOf(p api.Proof, h hand, names int) api.Term {
	kid := func(i int) api.Term { return g.termOf(p.Kids[i], h, names) }
	under := func(i int, a api.Formula) api.Term {
		return g.termOf(p.Kids[i], g.with(h, a, api.Term{Kind: api.TVar, I: names}), names+1)
	}
	switch p.Rule {
	case "true":
		return api.Term{Kind: api.TUnit}
	case "and-r":
		return api.Term{Kind: api.TPair, Kids: []api.Term{kid(0), kid(1)}}
	case "or-r1":
		return termWith(api.TLeft, p.F, kid(0))
	case "or-r2":
		return termWith(api.TRight, p.F, kid(0))
	case "then-r", "not-r":
		a := p.F.Kids[0]
		return termWith(api.TLam, a, under(0, a))
	case "contr-l":
		return kid(0)
	case "weak":
		return told(kid(0), p.Kids[0].End.Right, p.End.Right)
	}
	own := g.taken(h, p.F, names)
	switch p.Rule {
	case "false":
		return told(own, nil, p.End.Right)
	case "not-l":
		return told(applied(own, kid(0)), nil, p.End.Right)
	case "then-l":
		b := p.F.Kids[1]
		return applied(termWith(api.TLam, b, under(1, b)), applied(own, kid(0)))
	case "or-l":
		return api.Term{Kind: api.TCase, Kids: []api.Term{own, under(0, p.F.Kids[0]), under(1, p.F.Kids[1])}}
	case "and-l":
		return g.termOf(p.Kids[0], g.withSides(h, p.F), names)
	}
	return own // ax: there is no other rule
}

func (g *programmer) with(h hand, f api.Formula, t api.Term) hand {
	h[g.table.Number(f)] = t
	return h
}

// withSides has both sides of an FAnd that is at hand.
func (g *programmer) withSides(h hand, and api.Formula) hand {
	t := h[g.table.Number(and)]
	h = g.with(h, and.Kids[0], api.Term{Kind: api.TFirst, Kids: []api.Term{t}})
	return g.with(h, and.Kids[1], api.Term{Kind: api.TSecond, Kids: []api.Term{t}})
}

// taken is the term of f that is at hand, as it stands under so many names.
func (g *programmer) taken(h hand, f api.Formula, names int) api.Term {
	return counted(h[g.table.Number(f)], names)
}

// counted makes t, in new memory, a term whose name is counted from the innermost on.
func counted(t api.Term, names int) api.Term {
	if t.Kind == api.TVar {
		return api.Term{Kind: api.TVar, I: names - 1 - t.I}
	}
	return api.Term{Kind: t.Kind, Kids: []api.Term{counted(t.Kids[0], names)}}
}

func applied(t, u api.Term) api.Term {
	return api.Term{Kind: api.TApp, Kids: []api.Term{t, u}}
}

// termWith copies what the term is of, as one formula of a proof may stand at more than one node.
func termWith(kind int, of api.Formula, t api.Term) api.Term {
	return api.Term{Kind: kind, Of: copyOf(of), Kids: []api.Term{t}}
}

// told makes t, which tells what is at the one Right, a term of what is at the other: where nothing is there, it tells 0, of which all comes.
func told(t api.Term, from, to []api.Formula) api.Term {
	if len(from) == len(to) {
		return t
	}
	return termWith(api.TAbsurd, to[0], t)
}
