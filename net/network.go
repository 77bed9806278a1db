package net

import (
	"sequent/api"
	"sequent/stop"
)

// network is a plan with links: of each leaf that is linked mates has the other one.
type network struct {
	*plan
	mates map[int]int
}

// networkOf answers the net, or what Correct says is wrong with it.
func networkOf(l []api.Linear, axioms [][2]int) (n network, e api.Fault) {
	e = stop.Caught(func() {
		checkList(l)
		n = network{planOf(l), map[int]int{}}
		n.linkAll(axioms)
	})
	return n, e
}

// correctNetwork tells ErrFalse, too.
func correctNetwork(l []api.Linear, axioms [][2]int) (network, api.Fault) {
	n, e := networkOf(l, axioms)
	if e.Code == api.OK && !n.isCorrect() {
		e.Code = api.ErrFalse
	}
	return n, e
}

func (n network) linkAll(axioms [][2]int) {
	if len(axioms) > len(n.leaves) {
		stop.At(api.ErrMany, 0)
	}
	for at, link := range axioms {
		n.checkLink(link, at)
		n.link(link[0], link[1])
	}
	for leaf := range n.leaves {
		if !n.isLinked(leaf) {
			stop.At(api.ErrSize, leaf)
		}
	}
}

// checkLink is asked ahead of linking, so that only links ahead of this one count. A leaf that is twice in this one does not go with itself.
func (n network) checkLink(link [2]int, at int) {
	for _, leaf := range link {
		if leaf < 0 || leaf >= len(n.leaves) {
			stop.At(api.ErrRange, at)
		}
		if n.isLinked(leaf) {
			stop.At(api.ErrForm, at)
		}
	}
	if !n.isPair(link[0], link[1]) {
		stop.At(api.ErrForm, at)
	}
}

func (n network) isLinked(leaf int) bool {
	_, is := n.mates[leaf]
	return is
}

func (n network) link(leaf, other int) {
	n.mates[leaf], n.mates[other] = other, leaf
}

func (n network) unlink(leaf, other int) {
	delete(n.mates, leaf)
	delete(n.mates, other)
}

// links are told by their lesser leaves, rising: not as a map is gone through.
func (n network) links() [][2]int {
	var l [][2]int
	for leaf := range n.leaves {
		if mate := n.mates[leaf]; leaf < mate {
			l = append(l, [2]int{leaf, mate})
		}
	}
	return l
}

// linked tries all leaves that go with the first one that is not linked, and so on; 12 leaves come to 6! ways at most.
func linked(p *plan) (n network, isFound bool) {
	n = network{p, map[int]int{}}
	var linkFrom func(leaf int) bool
	linkFrom = func(leaf int) bool {
		for leaf < len(p.leaves) && n.isLinked(leaf) {
			leaf++
		}
		if leaf == len(p.leaves) {
			return n.isCorrect()
		}
		for other := leaf + 1; other < len(p.leaves); other++ {
			if n.isLinked(other) || !p.isPair(leaf, other) {
				continue
			}
			n.link(leaf, other)
			if linkFrom(leaf + 1) {
				return true
			}
			n.unlink(leaf, other)
		}
		return false
	}
	return n, linkFrom(0)
}
