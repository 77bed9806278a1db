package lambda

import (
	"sequent/api"
	"sequent/stop"
)

// cell is what a name stands for: a term in its scope until it is asked for, its value from then on. So it is worked out at most once, however often the name stands in a term.
type cell struct {
	term  *api.Term
	scope *scope
	value *value
}

// scope has the cells of the names around a term, the innermost first.
type scope struct {
	inner *cell
	outer *scope
}

func (s *scope) with(c *cell) *scope {
	return &scope{inner: c, outer: s}
}

// value is what a term comes to when no step is left to be done at its first node.
type value struct {
	kind  int
	node  *api.Term // that it comes of; a name has none
	level int       // of a name: how many stand around it, so that it is the same under more names
	scope *scope    // in which the Kids with one name more stand
	kids  [2]*cell  // the Kids without one
}

// nameAt is a cell for a name that nothing is put for.
func nameAt(level int) *cell {
	return &cell{value: &value{kind: api.TVar, level: level}}
}

// bindsName: does the Kid i of a term of this kind have one name more?
func bindsName(kind, i int) bool {
	return kind == api.TLam || kind == api.TCase && i > 0
}

// wait is what is to be done with a value: the cell is told it, or it is the first Kid of the node.
type wait struct {
	cell  *cell
	node  *api.Term
	scope *scope
}

// machine works values out. It keeps a list of what waits, in place of functions that call themselves: terms may call each other deeper than these could.
type machine struct {
	waiting    []wait
	work, most int
}

func (m *machine) spend(work int) {
	m.work += work
	if m.work > m.most {
		stop.At(api.ErrMuch, 0)
	}
}

func (m *machine) valueOf(c *cell) *value {
	v := m.entered(c)
	for len(m.waiting) > 0 {
		last := len(m.waiting) - 1
		w := m.waiting[last]
		m.waiting = m.waiting[:last]
		v = m.goneOn(w, v)
	}
	return v
}

// entered is c's value, or the first one that is met on the way to it.
func (m *machine) entered(c *cell) *value {
	if c.value != nil {
		return c.value
	}
	m.waiting = append(m.waiting, wait{cell: c})
	return m.down(c.term, c.scope)
}

// down goes from t to its first Kid, and from a name to its cell, as long as a step may be done there later.
func (m *machine) down(t *api.Term, s *scope) *value {
	for {
		m.spend(1)
		switch t.Kind {
		case api.TApp, api.TFirst, api.TSecond, api.TCase:
			m.waiting = append(m.waiting, wait{node: t, scope: s})
			t = &t.Kids[0]
		case api.TVar:
			c := m.find(t.I, s)
			if c.value != nil {
				return c.value
			}
			m.waiting = append(m.waiting, wait{cell: c})
			t, s = c.term, c.scope
		default:
			return m.standing(t, s)
		}
	}
}

// linksAtOnce are followed in the time of a step.
const linksAtOnce = 32

func (m *machine) find(i int, s *scope) *cell {
	m.spend(i / linksAtOnce)
	for range i {
		s = s.outer
	}
	return s.inner
}

// standing is the value of t where no step is to be done at its first node.
func (m *machine) standing(t *api.Term, s *scope) *value {
	v := &value{kind: t.Kind, node: t, scope: s}
	for i := range t.Kids {
		if !bindsName(t.Kind, i) {
			v.kids[i] = m.cellOf(&t.Kids[i], s)
		}
	}
	return v
}

// cellOf takes a name's own cell: one that led to it would make the way to the value longer each time.
func (m *machine) cellOf(t *api.Term, s *scope) *cell {
	if t.Kind == api.TVar {
		return m.find(t.I, s)
	}
	return &cell{term: t, scope: s}
}

// goneOn does with v what waits for it. The three kinds of steps are done here.
func (m *machine) goneOn(w wait, v *value) *value {
	if w.cell != nil {
		*w.cell = cell{value: v}
		return v
	}
	switch {
	case w.node.Kind == api.TApp && v.kind == api.TLam:
		return m.down(&v.node.Kids[0], v.scope.with(m.cellOf(&w.node.Kids[1], w.scope)))
	case w.node.Kind == api.TFirst && v.kind == api.TPair:
		return m.entered(v.kids[0])
	case w.node.Kind == api.TSecond && v.kind == api.TPair:
		return m.entered(v.kids[1])
	case w.node.Kind == api.TCase && v.kind == api.TLeft:
		return m.down(&w.node.Kids[1], w.scope.with(v.kids[0]))
	case w.node.Kind == api.TCase && v.kind == api.TRight:
		return m.down(&w.node.Kids[2], w.scope.with(v.kids[0]))
	}
	stuck := m.standing(w.node, w.scope)
	stuck.kids[0] = &cell{value: v}
	return stuck
}
