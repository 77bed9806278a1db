package net

import (
	"strings"

	"sequent/api"
)

// node is one of a list of formulas, with the numbers of its Kids, if it has any.
type node struct {
	kind int
	name string
	not  bool
	kids [2]int
}

// plan is a list of formulas by the numbers of their nodes.
type plan struct {
	nodes  []node
	roots  []int // of each formula its first node
	leaves []int // of each leaf its node
}

// planOf takes l to be a list of which Check says nothing.
func planOf(l []api.Linear) *plan {
	p := &plan{}
	for _, f := range l {
		p.roots = append(p.roots, p.add(f))
	}
	return p
}

func (p *plan) add(f api.Linear) (number int) {
	number = len(p.nodes)
	p.nodes = append(p.nodes, node{kind: f.Kind, name: f.Name, not: f.Not})
	if f.Kind == api.LAtom {
		p.leaves = append(p.leaves, number)
	}
	for i, k := range f.Kids {
		kid := p.add(k)
		p.nodes[number].kids[i] = kid
	}
	return number
}

// isPar and isTensor tell of the node with that number.
func (p *plan) isPar(number int) bool    { return p.nodes[number].kind == api.LPar }
func (p *plan) isTensor(number int) bool { return p.nodes[number].kind == api.LTensor }

// isPair tells whether two leaves go together: one is the opposite of the other.
func (p *plan) isPair(leaf, other int) bool {
	a, b := p.nodes[p.leaves[leaf]], p.nodes[p.leaves[other]]
	return a.name == b.name && a.not != b.not
}

// eachBelow visits a node, if it is no leaf, and all such in its Kids.
func (p *plan) eachBelow(number int, visit func(number int, kids [2]int)) {
	n := p.nodes[number]
	if n.kind == api.LAtom {
		return
	}
	visit(number, n.kids)
	for _, k := range n.kids {
		p.eachBelow(k, visit)
	}
}

// formulas makes those that stand at the nodes anew, as an answer shares no memory with what was handed in, nor its parts with each other.
func (p *plan) formulas(numbers []int) []api.Linear {
	var l []api.Linear
	for _, number := range numbers {
		l = append(l, p.formula(number))
	}
	return l
}

func (p *plan) formula(number int) api.Linear {
	n := p.nodes[number]
	if n.kind == api.LAtom {
		return api.Linear{Kind: n.kind, Name: strings.Clone(n.name), Not: n.not}
	}
	return api.Linear{Kind: n.kind, Kids: p.formulas(n.kids[:])}
}
