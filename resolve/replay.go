package resolve

import (
	"sequent/api"
	"sequent/syntax"
	"sequent/words"
)

// stepFault is the code of the first fault of a step behind those of p.
func (p proof) stepFault(s api.Infer) int {
	if clauseFault(s.Clause) != api.OK {
		return api.ErrForm
	}
	if s.Kind != isGiven && s.Kind != resolves && s.Kind != joins {
		return api.ErrKind
	}
	if !p.hasWhatItNames(s) {
		return api.ErrRange
	}
	if o, is := p.outcome(s); !is || !o.isLike(s.Clause) {
		return api.ErrFalse
	}
	return api.OK
}

func (p proof) hasWhatItNames(s api.Infer) bool {
	switch s.Kind {
	case isGiven:
		return isPlace(s.A, len(p.given)) && s.B == 0 && s.I == 0 && s.J == 0
	case resolves:
		return p.hasLiteral(s.A, s.I) && p.hasLiteral(s.B, s.J)
	}
	return p.hasLiteral(s.A, s.I) && p.hasLiteral(s.A, s.J) && s.B == 0
}

func (p proof) hasLiteral(step, at int) bool {
	return isPlace(step, len(p.steps)) && isPlace(at, len(p.steps[step].Clause))
}

func isPlace(at, n int) bool { return 0 <= at && at < n }

// isLike tells whether the clause is what came, but for other names of variables.
func (o outcome) isLike(c []api.Literal) bool {
	if len(o.literals) != len(c) {
		return false
	}
	names := pairing{o.graph, numbers[string]{}, numbers[int]{}}
	for i, p := range o.literals {
		if p.not != c[i].Not || p.name != c[i].Name || !names.areLike(p.words, c[i].Words) {
			return false
		}
	}
	return true
}

// pairing holds variables of a clause against those of a graph. Both are numbered as they come, so that they go together one to one just if their numbers are the same wherever they stand.
type pairing struct {
	graph   *words.Graph
	names   numbers[string]
	classes numbers[int]
}

// numbers count things from 0 on, in the order in which they are first asked for.
type numbers[K comparable] map[K]int

func (n numbers[K]) of(k K) int {
	at, known := n[k]
	if !known {
		at = len(n)
		n[k] = at
	}
	return at
}

// areLike goes no further than the words of the clause go, however large those of the graph are.
func (p pairing) areLike(nodes []int, l []api.Word) bool {
	if len(nodes) != len(l) {
		return false
	}
	for i, w := range l {
		if !p.isLike(p.graph.At(nodes[i]), w) {
			return false
		}
	}
	return true
}

func (p pairing) isLike(n words.Node, w api.Word) bool {
	if n.IsVariable() || !syntax.IsBig(w.Name) {
		return n.IsVariable() && !syntax.IsBig(w.Name) && p.classes.of(n.Class) == p.names.of(w.Name)
	}
	return n.Name == w.Name && p.areLike(n.Args, w.Args)
}
