package net_test

import (
	"slices"

	"sequent/api"
)

// graph has the nodes of a list with their joints.
type graph struct {
	nodes  int
	leaves []int
	joints [][2]int // of each LTensor to both Kids
	pars   [][3]int // each LPar with both Kids
}

func graphOf(l []api.Linear) graph {
	g := graph{}
	for _, f := range l {
		g.add(f)
	}
	return g
}

func (g *graph) add(f api.Linear) int {
	at := g.nodes
	g.nodes++
	if f.Kind == api.LAtom {
		g.leaves = append(g.leaves, at)
		return at
	}
	a := g.add(f.Kids[0])
	b := g.add(f.Kids[1])
	if f.Kind == api.LPar {
		g.pars = append(g.pars, [3]int{at, a, b})
	} else {
		g.joints = append(g.joints, [2]int{at, a}, [2]int{at, b})
	}
	return at
}

// trial is the second reckoning of Correct, word by word: all ways to join each LPar to one of its Kids.
func trial(l []api.Linear, links [][2]int) bool {
	g := graphOf(l)
	for _, link := range links {
		g.joints = append(g.joints, [2]int{g.leaves[link[0]], g.leaves[link[1]]})
	}
	for way := range 1 << len(g.pars) {
		joints := slices.Clone(g.joints)
		for i, p := range g.pars {
			joints = append(joints, [2]int{p[0], p[1+way>>i&1]})
		}
		if !isTree(g.nodes, joints) {
			return false
		}
	}
	return true
}

// isTree: from node 0 one comes to each node, and in one way alone.
func isTree(nodes int, joints [][2]int) bool {
	ways := make([]int, nodes)
	var goOn func(at, from int) bool
	goOn = func(at, from int) bool {
		ways[at]++
		if ways[at] > 1 {
			return false
		}
		for i, j := range joints {
			if i == from {
				continue
			}
			if j[0] == at && !goOn(j[1], i) || j[1] == at && !goOn(j[0], i) {
				return false
			}
		}
		return true
	}
	return goOn(0, -1) && !slices.Contains(ways, 0)
}

// strand is a formula with numbers for its leaves: both leaves of a link have the same one.
type strand struct {
	f    api.Linear
	ends []int
}

func strands(l []api.Linear, links [][2]int) []strand {
	ends := make([]int, len(leavesOf(l...)))
	for number, link := range links {
		ends[link[0]], ends[link[1]] = number, number
	}
	var all []strand
	for _, f := range l {
		n := len(leavesOf(f))
		all = append(all, strand{f, ends[:n]})
		ends = ends[n:]
	}
	return all
}

func (s strand) kids() []strand {
	n := len(leavesOf(s.f.Kids[0]))
	return []strand{{s.f.Kids[0], s.ends[:n]}, {s.f.Kids[1], s.ends[n:]}}
}

// hasProof is a reckoning for larger nets: is there a proof with just these links? Where an LTensor parts what is linked, it may be taken off: each proof of the whole has proofs of both parts in it.
func hasProof(all []strand) bool {
	for at, s := range all {
		others := slices.Concat(all[:at], all[at+1:])
		switch s.f.Kind {
		case api.LPar:
			return hasProof(append(others, s.kids()...))
		case api.LTensor:
			kids := s.kids()
			first, second := parted(append(others, kids[1]), kids[0])
			isParted := !slices.ContainsFunc(first, func(x strand) bool { return &x.ends[0] == &kids[1].ends[0] })
			if isParted && !slices.ContainsFunc(all, func(x strand) bool { return x.f.Kind == api.LPar }) {
				return hasProof(first) && hasProof(second)
			}
		}
	}
	return len(all) == 2 && all[0].f.Kind == api.LAtom && all[1].f.Kind == api.LAtom && all[0].ends[0] == all[1].ends[0]
}

// parted are those to which one comes from s by links, with s, and the others.
func parted(all []strand, s strand) (with, without []strand) {
	with, without = []strand{s}, all
	for i := 0; i < len(with); i++ {
		isLinked := func(x strand) bool {
			return slices.ContainsFunc(x.ends, func(end int) bool { return slices.Contains(with[i].ends, end) })
		}
		var rest []strand
		for _, x := range without {
			if isLinked(x) {
				with = append(with, x)
			} else {
				rest = append(rest, x)
			}
		}
		without = rest
	}
	return with, without
}

// isProvable is the second reckoning of Prove that knows of no links: all proofs are tried, from the end on.
func isProvable(l []api.Linear) bool {
	if len(l) == 2 && l[0].Kind == api.LAtom && l[1].Kind == api.LAtom {
		return isPair(l[0], l[1])
	}
	for at, f := range l {
		others := slices.Concat(l[:at], l[at+1:])
		if f.Kind == api.LPar && isProvable(slices.Concat(others, f.Kids)) {
			return true
		}
		for way := range 1 << len(others) {
			if f.Kind != api.LTensor {
				break
			}
			sides := [2][]api.Linear{{f.Kids[0]}, {f.Kids[1]}}
			for i, g := range others {
				sides[way>>i&1] = append(sides[way>>i&1], g)
			}
			if isProvable(sides[0]) && isProvable(sides[1]) {
				return true
			}
		}
	}
	return false
}
