package kripke

import (
	"sequent/api"
	"sequent/parts"
	"sequent/set"
)

// nothing stands for the part at the Right where there is none: no part has this number.
const nothing = api.MaxSubs

// goal is a sequent of parts, by their numbers. How often one is at the Left does not matter for whether there is a proof, as contr-l and weak make it more and less often.
type goal struct {
	left  set.Set
	right int
}

// premise is what a rule asks for: more at the Left, and what is at the Right.
type premise struct {
	adds  []int
	right int
}

// over is the goal that a premise makes of g: whatever was at the Left stays, as it can do no harm.
func (g goal) over(p premise) goal {
	return goal{left: g.left.With(p.adds...), right: p.right}
}

// way is how a goal comes of others, by a rule that speaks of a part.
type way struct {
	rule     string
	of       int
	isLeft   bool // the part is at the Left
	premises []premise
}

// waysTo are all that there are to g; where one has no premises, it alone.
func waysTo(g goal, table *parts.Table) []way {
	if w, found := closing(g, table); found {
		return []way{w}
	}
	var ways []way
	for _, n := range g.left.Members(table.Len()) {
		ways = append(ways, waysAtLeft(n, table.Part(n), g.right)...)
	}
	if g.right != nothing {
		ways = append(ways, waysAtRight(g.right, table.Part(g.right))...)
	}
	return ways
}

func closing(g goal, table *parts.Table) (w way, found bool) {
	if g.right != nothing && g.left.Has(g.right) {
		return way{rule: "ax", of: g.right, isLeft: true}, true
	}
	if g.right != nothing && table.Part(g.right).Kind == api.FTrue {
		return way{rule: "true", of: g.right}, true
	}
	for _, n := range g.left.Members(table.Len()) {
		if table.Part(n).Kind == api.FFalse {
			return way{rule: "false", of: n, isLeft: true}, true
		}
	}
	return way{}, false
}

// waysAtLeft are those by rules that speak of p, the part with the number n, at the Left.
func waysAtLeft(n int, p parts.Part, right int) []way {
	a, b := p.Kids[0], p.Kids[1]
	by := func(rule string, premises ...premise) []way {
		return []way{{rule: rule, of: n, isLeft: true, premises: premises}}
	}
	switch p.Kind {
	case api.FNot:
		return by("not-l", premise{right: a})
	case api.FAnd:
		return by("and-l", premise{adds: []int{a, b}, right: right})
	case api.FOr:
		return by("or-l", premise{adds: []int{a}, right: right}, premise{adds: []int{b}, right: right})
	case api.FThen:
		return by("then-l", premise{right: a}, premise{adds: []int{b}, right: right})
	}
	return nil
}

// waysAtRight are likewise of the Right.
func waysAtRight(n int, p parts.Part) []way {
	a, b := p.Kids[0], p.Kids[1]
	by := func(rule string, premises ...premise) way {
		return way{rule: rule, of: n, premises: premises}
	}
	switch p.Kind {
	case api.FNot:
		return []way{by("not-r", premise{adds: []int{a}, right: nothing})}
	case api.FAnd:
		return []way{by("and-r", premise{right: a}, premise{right: b})}
	case api.FOr:
		return []way{by("or-r1", premise{right: a}), by("or-r2", premise{right: b})}
	case api.FThen:
		return []way{by("then-r", premise{adds: []int{a}, right: b})}
	}
	return nil
}
