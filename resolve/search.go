package resolve

import (
	"slices"
	"strings"

	"sequent/api"
)

// Work is told in nodes that are gone to.
const (
	mostWork = 5000000 // about how much a search does before it gives up
	stepWork = 60      // to make a step
	nodeWork = 20      // and each node and each literal of it
)

// search takes clauses one by one, those with the fewest nodes first, and makes all that comes of each by itself and with those taken before.
type search struct {
	proof                           // all steps that were made
	narrow  bool                    // two clauses are resolved only where one has no Not
	taken   []int                   // their numbers: those whose clauses were taken
	waiting [api.MaxNodes + 1][]int // and those whose clauses were not, by nodes
	known   map[string]struct{}     // clauses that were made, as texts
	work    int
}

// refute answers steps, if some are found. A narrow search leaves out so much that it mostly comes further. But it may need clauses that are too large, where another one does not.
func refute(l [][]api.Literal) (steps []api.Infer, found bool) {
	steps, found = newSearch(l, true).refute()
	if !found {
		steps, found = newSearch(l, false).refute()
	}
	return steps, found
}

func newSearch(l [][]api.Literal, narrow bool) *search {
	return &search{proof: proof{given: l}, narrow: narrow, known: map[string]struct{}{}, work: mostWork}
}

func (s *search) refute() (steps []api.Infer, found bool) {
	for at := range len(s.given) {
		s.add(api.Infer{Kind: isGiven, A: at})
	}
	for {
		at, waits := s.next()
		switch {
		case !waits:
			return nil, false
		case len(s.steps[at].Clause) == 0:
			steps = s.needed(at)
			return steps, len(steps) <= api.MaxList
		case s.work <= 0:
			return nil, false
		}
		s.take(at)
	}
}

// next is the first of those that wait with the fewest nodes.
func (s *search) next() (at int, waits bool) {
	for n, l := range s.waiting {
		if len(l) > 0 {
			s.waiting[n] = l[1:]
			return l[0], true
		}
	}
	return 0, false
}

// add makes a step, if work is left. What comes of it waits, once literals that are the same have become one, if it says something, and something new.
func (s *search) add(step api.Infer) {
	if s.work <= 0 {
		return
	}
	o, is := s.outcome(step)
	s.work -= stepWork + nodeWork*(o.graph.Len()+len(o.literals))
	if !is || !o.isSmall() {
		return
	}
	step.Clause = o.clause()
	at := len(s.steps)
	l := told(step.Clause)
	if isTrue(l) {
		return
	}
	s.steps = append(s.steps, step)
	if i, j, are := same(l); are {
		s.add(api.Infer{Kind: joins, A: at, I: i, J: j})
		return
	}
	if s.isNew(l) {
		n := size(step.Clause)
		s.waiting[n] = append(s.waiting[n], at)
	}
}

// isTrue tells whether a literal and its opposite are among them.
func isTrue(told []string) bool {
	for _, l := range told {
		if slices.Contains(told, opposite+l) {
			return true
		}
	}
	return false
}

// same tells two places of one literal.
func same(told []string) (i, j int, are bool) {
	for j := range len(told) {
		if i := slices.Index(told, told[j]); i < j {
			return i, j, true
		}
	}
	return 0, 0, false
}

// isNew: in what order literals stand does not matter.
func (s *search) isNew(told []string) bool {
	slices.Sort(told)
	text := strings.Join(told, " ")
	_, known := s.known[text]
	s.known[text] = struct{}{}
	return !known
}

// take makes all that comes of a clause, unless one that was taken says as much.
func (s *search) take(at int) {
	c := s.steps[at].Clause
	for _, k := range s.taken {
		if s.covers(s.steps[k].Clause, c) {
			return
		}
	}
	s.taken = slices.DeleteFunc(s.taken, func(k int) bool { return s.covers(c, s.steps[k].Clause) })
	s.taken = append(s.taken, at)
	s.joinAll(at)
	for _, k := range s.taken {
		s.resolveAll(at, k)
	}
}

func (s *search) joinAll(at int) {
	c := s.steps[at].Clause
	for j := range len(c) {
		for i := range j {
			if c[i].Not == c[j].Not && s.mayBeSame(c[i], c[j]) {
				s.add(api.Infer{Kind: joins, A: at, I: i, J: j})
			}
		}
	}
}

func (s *search) resolveAll(a, b int) {
	c, d := s.steps[a].Clause, s.steps[b].Clause
	if s.narrow && hasNot(c) && hasNot(d) {
		return
	}
	for i := range len(c) {
		for j := range len(d) {
			if c[i].Not != d[j].Not && s.mayBeSame(c[i], d[j]) {
				s.add(api.Infer{Kind: resolves, A: a, B: b, I: i, J: j})
			}
		}
	}
}

func hasNot(c []api.Literal) bool {
	return slices.ContainsFunc(c, func(l api.Literal) bool { return l.Not })
}

// needed are the steps that lead to one of them, with the numbers that they have there.
func (s *search) needed(last int) []api.Infer {
	need := make([]bool, last+1)
	need[last] = true
	for at := last; at >= 0; at-- {
		if !need[at] || s.steps[at].Kind == isGiven {
			continue
		}
		need[s.steps[at].A] = true
		if s.steps[at].Kind == resolves {
			need[s.steps[at].B] = true
		}
	}
	var steps []api.Infer
	number := map[int]int{}
	for at := range last + 1 {
		if !need[at] {
			continue
		}
		step := s.steps[at]
		if step.Kind != isGiven {
			step.A, step.B = number[step.A], number[step.B]
		}
		number[at] = len(steps)
		steps = append(steps, step)
	}
	return steps
}
