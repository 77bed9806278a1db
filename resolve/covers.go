package resolve

import (
	"slices"

	"sequent/api"
	"sequent/syntax"
)

// mayBeSame looks for what can't be made the same, whatever is put for variables, as this is found sooner than by a graph.
func (s *search) mayBeSame(a, b api.Literal) bool {
	return a.Name == b.Name && s.wordsMayBeSame(a.Words, b.Words)
}

func (s *search) wordsMayBeSame(a, b []api.Word) bool {
	if len(a) != len(b) {
		return false
	}
	for i := range len(a) {
		s.work--
		if !syntax.IsBig(a[i].Name) || !syntax.IsBig(b[i].Name) {
			continue
		}
		if a[i].Name != b[i].Name || !s.wordsMayBeSame(a[i].Args, b[i].Args) {
			return false
		}
	}
	return true
}

// mostTries is how many nodes are gone to until it is given up that a clause covers another one. Nothing but time is lost then.
const mostTries = 2000

// covers tells whether a, with words for its variables, has literals of b alone, so that b says nothing more. (A clause with more literals does not cover: it would do so to all that comes of joining them.)
func (s *search) covers(a, b []api.Literal) bool {
	if len(a) > len(b) {
		return false
	}
	c := cover{search: s, whole: b, end: s.work - mostTries}
	return c.has(a, nil)
}

type cover struct {
	*search
	whole []api.Literal
	end   int
}

func (c cover) has(l []api.Literal, binds []api.Bind) bool {
	if len(l) == 0 {
		return true
	}
	for _, b := range c.whole {
		if more, is := c.match(l[0], b, binds); is && c.has(l[1:], more) {
			return true
		}
		if c.work < c.end {
			return false
		}
	}
	return false
}

func (c cover) match(a, b api.Literal, binds []api.Bind) ([]api.Bind, bool) {
	c.work--
	if a.Not != b.Not || a.Name != b.Name {
		return nil, false
	}
	return c.matchWords(a.Words, b.Words, binds)
}

// matchWords answers binds, and those by which the words of a become those of b, if there are any. What it answers may lie in the memory of binds, behind them: of several answers only the last one holds.
func (c cover) matchWords(a, b []api.Word, binds []api.Bind) (more []api.Bind, is bool) {
	if len(a) != len(b) {
		return nil, false
	}
	for i := range len(a) {
		if binds, is = c.matchWord(a[i], b[i], binds); !is {
			return nil, false
		}
	}
	return binds, true
}

func (c cover) matchWord(a, b api.Word, binds []api.Bind) ([]api.Bind, bool) {
	c.work--
	if syntax.IsBig(a.Name) {
		if a.Name != b.Name {
			return nil, false
		}
		return c.matchWords(a.Args, b.Args, binds)
	}
	for _, known := range binds {
		if known.Name == a.Name {
			return binds, isSame(known.Word, b)
		}
	}
	return append(binds, api.Bind{Name: a.Name, Word: b}), true
}

func isSame(a, b api.Word) bool {
	return a.Name == b.Name && slices.EqualFunc(a.Args, b.Args, isSame)
}
