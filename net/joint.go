package net

import (
	"slices"

	"sequent/api"
)

// isDual takes both to be formulas of which Check says nothing.
func isDual(f, g api.Linear) bool {
	if f.Kind == api.LAtom {
		return g.Kind == api.LAtom && f.Name == g.Name && f.Not != g.Not
	}
	return g.Kind != api.LAtom && f.Kind != g.Kind && slices.EqualFunc(f.Kids, g.Kids, isDual)
}

func leavesIn(f api.Linear) int {
	if f.Kind == api.LAtom {
		return 1
	}
	return leavesIn(f.Kids[0]) + leavesIn(f.Kids[1])
}

// joint is of two nets: the last leaves of the first one stand against the first ones of the second, as many of both.
type joint struct {
	nets [2]network
	from [2]int // of each net its first leaf that stands against one of the other
	many int
}

func newJoint(first, second network, many int) joint {
	return joint{[2]network{first, second}, [2]int{len(first.leaves) - many, 0}, many}
}

// isInner: does the leaf stand against one of the other net?
func (j joint) isInner(side, leaf int) bool {
	return leaf >= j.from[side] && leaf < j.from[side]+j.many
}

// number counts the leaves that are left, those of the first net first.
func (j joint) number(side, leaf int) int {
	if side == 0 {
		return leaf
	}
	return j.from[0] + leaf - j.many
}

// end is the number of the leaf to which one comes. Each leaf that stands against another is passed at most once: the way could be gone back.
func (j joint) end(side, leaf int) int {
	leaf = j.nets[side].mates[leaf]
	for j.isInner(side, leaf) {
		place := leaf - j.from[side]
		side = 1 - side
		leaf = j.nets[side].mates[j.from[side]+place]
	}
	return j.number(side, leaf)
}

func (j joint) links() [][2]int {
	var l [][2]int
	for side, n := range j.nets {
		for leaf := range n.leaves {
			if j.isInner(side, leaf) {
				continue
			}
			if number, end := j.number(side, leaf), j.end(side, leaf); number < end {
				l = append(l, [2]int{number, end})
			}
		}
	}
	return l
}
