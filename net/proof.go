package net

import (
	"slices"

	"sequent/api"
)

// proof is one of the formulas at the roots; the part of the net that is below them is correct.
//
// LPar is taken off wherever it stands at a root. Where there is none, and more than a link, a correct net has an LTensor at a root that holds together two nets that have nothing else between them (Girard).
func (n network) proof(roots []int) api.Tree {
	if at := slices.IndexFunc(roots, n.isPar); at >= 0 {
		return n.step("par", roots, n.proof(slices.Concat(without(roots, at), n.kidsAt(roots[at]))))
	}
	for at, root := range roots {
		if !n.isTensor(root) {
			continue
		}
		c, kids := n.fallenApart(roots, root), n.kidsAt(root)
		if c.isOne(kids[0], kids[1]) {
			continue
		}
		side := func(kid int) api.Tree {
			isElsewhere := func(other int) bool { return !c.isOne(other, kid) }
			return n.proof(append(slices.DeleteFunc(without(roots, at), isElsewhere), kid))
		}
		return n.step("tensor", roots, side(kids[0]), side(kids[1]))
	}
	return n.step("ax", roots)
}

func (n network) step(rule string, roots []int, kids ...api.Tree) api.Tree {
	return api.Tree{Rule: rule, End: n.formulas(roots), Kids: kids}
}

// kidsAt is a new list.
func (n network) kidsAt(number int) []int {
	return slices.Clone(n.nodes[number].kids[:])
}

// fallenApart are the classes of nodes below the roots that hang together without the LTensor, where each LPar is joined to both of its Kids.
func (n network) fallenApart(roots []int, tensor int) *classes {
	c := newClasses(len(n.nodes))
	n.uniteLinks(c)
	for _, root := range roots {
		n.eachBelow(root, func(number int, kids [2]int) {
			if number != tensor {
				c.unite(number, kids[0])
				c.unite(number, kids[1])
			}
		})
	}
	return c
}

// without is l but for its element at that place, as a new list.
func without(l []int, at int) []int {
	return slices.Concat(l[:at], l[at+1:])
}
