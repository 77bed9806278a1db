package modlog_test

import (
	"maps"
	"slices"
	"strings"
	"testing"

	"sequent/api"
	"sequent/formula"
)

// isValid is the second reckoning: a world is sought at which f is not true, by putting formulas apart, and, in S5, by going through all models.
func isValid(logic int, f api.Formula) bool {
	switch logic {
	case S5:
		return isTrueInAll(f)
	case K4, S4, GL:
		p := path{logic: logic}
		return !p.isOpen([]api.Formula{turned(f, false)}, nil)
	}
	g := grove{logic: logic, has: []map[string]api.Formula{{}}, near: [][]int{nil}}
	return !g.isOpen([]leaf{{0, turned(f, false)}})
}

// turned is f, or, with false, its opposite, with FNot at names alone, and without FThen.
func turned(f api.Formula, is bool) api.Formula {
	pick := func(yes, no int) int {
		if is {
			return yes
		}
		return no
	}
	kid := func(i int, is bool) api.Formula { return turned(f.Kids[i], is) }
	switch f.Kind {
	case api.FTrue:
		return node(pick(api.FTrue, api.FFalse))
	case api.FFalse:
		return node(pick(api.FFalse, api.FTrue))
	case api.FNot:
		return kid(0, !is)
	case api.FAnd:
		return node(pick(api.FAnd, api.FOr), kid(0, is), kid(1, is))
	case api.FOr:
		return node(pick(api.FOr, api.FAnd), kid(0, is), kid(1, is))
	case api.FThen:
		return node(pick(api.FOr, api.FAnd), kid(0, !is), kid(1, is))
	case api.FBox:
		return node(pick(api.FBox, api.FDia), kid(0, is))
	case api.FDia:
		return node(pick(api.FDia, api.FBox), kid(0, is))
	}
	if is {
		return f
	}
	return node(api.FNot, f)
}

// clashes: is f false, or its opposite there?
func clashes(f api.Formula, has map[string]api.Formula) bool {
	_, isThere := has[text(turned(f, false))]
	return f.Kind == api.FFalse || isThere
}

// leaf is a formula that is to be true at a world.
type leaf struct {
	world int
	f     api.Formula
}

// grove is a model in which no way leads back to where it came from, but by the step that it came by: with all that is to be true at its worlds, and which are near each other. It is for the logics in which nothing is seen by way of another world.
type grove struct {
	logic int
	has   []map[string]api.Formula
	near  [][]int
}

func (g grove) copy() grove {
	c := grove{logic: g.logic}
	for w := range g.has {
		c.has = append(c.has, maps.Clone(g.has[w]))
		c.near = append(c.near, slices.Clone(g.near[w]))
	}
	return c
}

// isOpen: can all that is still to do be true, too?
func (g *grove) isOpen(todo []leaf) bool {
	for len(todo) > 0 {
		at, f := todo[0].world, todo[0].f
		todo = slices.Clone(todo[1:])
		if _, isThere := g.has[at][text(f)]; isThere {
			continue
		}
		if clashes(f, g.has[at]) {
			return false
		}
		g.has[at][text(f)] = f
		switch f.Kind {
		case api.FAnd:
			todo = append(todo, leaf{at, f.Kids[0]}, leaf{at, f.Kids[1]})
		case api.FOr:
			c := g.copy()
			if c.isOpen(append(slices.Clone(todo), leaf{at, f.Kids[0]})) {
				return true
			}
			todo = append(todo, leaf{at, f.Kids[1]})
		case api.FBox:
			todo = append(todo, g.boxed(at, f)...)
		case api.FDia:
			todo = append(todo, g.grown(at, f)...)
		}
	}
	return true
}

// boxed is what an FBox asks for.
func (g *grove) boxed(at int, f api.Formula) []leaf {
	var l []leaf
	for _, w := range g.near[at] {
		l = append(l, leaf{w, f.Kids[0]})
	}
	if g.logic == T || g.logic == B {
		l = append(l, leaf{at, f.Kids[0]})
	}
	if g.logic == D {
		l = append(l, leaf{at, node(api.FDia, node(api.FTrue))})
	}
	return l
}

// grown: an FDia asks for a new world.
func (g *grove) grown(at int, f api.Formula) []leaf {
	to := len(g.has)
	g.has = append(g.has, map[string]api.Formula{})
	g.near = append(g.near, nil)
	g.near[at] = append(g.near[at], to)
	if g.logic == B {
		g.near[to] = []int{at}
	}
	l := []leaf{{to, f.Kids[0]}}
	for _, h := range g.has[at] {
		if h.Kind == api.FBox {
			l = append(l, leaf{to, h.Kids[0]})
		}
	}
	return l
}

// path has what was to be true at the worlds on the way to one, for the logics in which all on a way is seen.
type path struct {
	logic  int
	behind []string
}

// isOpen: can all that is still to do be true at one world, beside what is done?
func (p path) isOpen(todo []api.Formula, done map[string]api.Formula) bool {
	done = maps.Clone(done)
	if done == nil {
		done = map[string]api.Formula{}
	}
	for len(todo) > 0 {
		f := todo[0]
		todo = slices.Clone(todo[1:])
		if _, isThere := done[text(f)]; isThere {
			continue
		}
		if clashes(f, done) {
			return false
		}
		done[text(f)] = f
		switch {
		case f.Kind == api.FAnd:
			todo = append(todo, f.Kids...)
		case f.Kind == api.FOr:
			return p.isOpen(append(slices.Clone(todo), f.Kids[0]), done) || p.isOpen(append(slices.Clone(todo), f.Kids[1]), done)
		case f.Kind == api.FBox && p.logic == S4:
			todo = append(todo, f.Kids[0])
		}
	}
	for _, f := range done {
		if f.Kind == api.FDia && !p.isSeen(f.Kids[0], done) {
			return false
		}
	}
	return true
}

// isSeen: can there be a world at which f is true? One that is as one on the way may be this one itself.
func (p path) isSeen(f api.Formula, done map[string]api.Formula) bool {
	next := []api.Formula{f}
	if p.logic == GL {
		next = append(next, node(api.FBox, turned(f, false)))
	}
	for _, h := range done {
		if h.Kind == api.FBox {
			next = append(next, h, h.Kids[0])
		}
	}
	var texts []string
	for _, f := range next {
		texts = append(texts, text(f))
	}
	slices.Sort(texts)
	here := strings.Join(slices.Compact(texts), ", ")
	if slices.Contains(p.behind, here) {
		return true
	}
	return path{logic: p.logic, behind: append(slices.Clone(p.behind), here)}.isOpen(next, nil)
}

// isTrueInAll goes through the models in which all worlds see each other: of two worlds at which the same names are true one is enough.
func isTrueInAll(f api.Formula) bool {
	names, _ := formula.Names(f)
	rows := 1 << len(names)
	for which := 1; which < 1<<rows; which++ {
		for row := range rows {
			if which>>row&1 == 1 && !isTrueAmong(f, names, which, row) {
				return false
			}
		}
	}
	return true
}

// isTrueAmong: is f true where the names are true as the row's digits say, and just these rows are worlds?
func isTrueAmong(f api.Formula, names []string, which, row int) bool {
	is := func(kid, row int) bool { return isTrueAmong(f.Kids[kid], names, which, row) }
	switch f.Kind {
	case api.FVar:
		return row>>slices.Index(names, f.Name)&1 == 1
	case api.FTrue:
		return true
	case api.FNot:
		return !is(0, row)
	case api.FAnd:
		return is(0, row) && is(1, row)
	case api.FOr:
		return is(0, row) || is(1, row)
	case api.FThen:
		return !is(0, row) || is(1, row)
	case api.FBox, api.FDia:
		for other := range 1 << len(names) {
			if which>>other&1 == 1 && is(0, other) == (f.Kind == api.FDia) {
				return f.Kind == api.FDia
			}
		}
		return f.Kind == api.FBox
	}
	return false
}

// TestSecondReckoning: it is right of formulas that are known, so that it can speak against others.
func TestSecondReckoning(t *testing.T) {
	for s, want := range known() {
		got := ""
		for logic := K; logic <= GL; logic++ {
			if isValid(logic, read(t, s)) {
				got += "1"
			} else {
				got += "0"
			}
		}
		if got != want {
			t.Errorf("%s: %s, want %s", s, got, want)
		}
	}
}
