package cut

import (
	"strings"

	"sequent/api"
)

// eachStep visits the steps of p, and tells how deep each is, if p is so deep.
func eachStep(p api.Proof, deep int, visit func(s api.Proof, deep int)) {
	visit(p, deep)
	for _, k := range p.Kids {
		eachStep(k, deep+1, visit)
	}
}

func nodesIn(l ...api.Formula) int {
	n := len(l)
	for _, f := range l {
		n += nodesIn(f.Kids...)
	}
	return n
}

// nodesOfAll counts those of all formulas that p's steps have.
func nodesOfAll(p api.Proof) int {
	n := 0
	eachStep(p, 1, func(s api.Proof, _ int) {
		n += nodesIn(s.F) + nodesIn(s.End.Left...) + nodesIn(s.End.Right...)
	})
	return n
}

// copyOfProof shares no memory with p, and none within itself.
func copyOfProof(p api.Proof) api.Proof {
	return api.Proof{
		Rule: strings.Clone(p.Rule),
		F:    copyOf(p.F),
		End:  api.Sequent{Left: copies(p.End.Left, copyOf), Right: copies(p.End.Right, copyOf)},
		Kids: copies(p.Kids, copyOfProof),
	}
}

func copyOf(f api.Formula) api.Formula {
	return api.Formula{Kind: f.Kind, Name: strings.Clone(f.Name), Kids: copies(f.Kids, copyOf)}
}

// copies is a new list of what copyOne makes of each in l.
func copies[T any](l []T, copyOne func(T) T) []T {
	var out []T
	for _, one := range l {
		out = append(out, copyOne(one))
	}
	return out
}
