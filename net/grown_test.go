package net_test

import (
	"math/rand"
	"slices"

	"sequent/api"
)

// grower makes nets that are correct, as proofs do: from links on, by steps that are chosen by chance.
type grower struct {
	chance *rand.Rand
	nets   [][]strand
	next   int
	kept   []int // ends of a formula that no step takes
}

// ax begins a net that is one link.
func (g *grower) ax(name string) {
	ends := []int{g.next}
	g.next++
	g.nets = append(g.nets, []strand{{atom(name), ends}, {opposite(name), ends}})
}

// identity begins a net with f, which no step takes, and its dual, linked straight.
func (g *grower) identity(f api.Linear) {
	var ends []int
	for range leavesOf(f) {
		ends = append(ends, g.next)
		g.next++
	}
	g.kept = ends
	g.nets = append(g.nets, []strand{{f, ends}, {dual(f), slices.Clone(ends)}})
}

func (g *grower) isKept(s strand) bool { return len(g.kept) > 0 && &s.ends[0] == &g.kept[0] }

// take takes one formula off a net.
func (g *grower) take(at int) strand {
	l := g.nets[at]
	i := g.chance.Intn(len(l))
	for g.isKept(l[i]) {
		i = (i + 1) % len(l)
	}
	s := l[i]
	g.nets[at] = slices.Concat(l[:i], l[i+1:])
	return s
}

func (g *grower) free(at int) int {
	n := 0
	for _, s := range g.nets[at] {
		if !g.isKept(s) {
			n++
		}
	}
	return n
}

func (g *grower) putPar(at int) {
	a, b := g.take(at), g.take(at)
	g.nets[at] = append(g.nets[at], strand{par(a.f, b.f), slices.Concat(a.ends, b.ends)})
}

func (g *grower) putTensor(at, other int) {
	a, b := g.take(at), g.take(other)
	whole := append(slices.Concat(g.nets[at], g.nets[other]), strand{tensor(a.f, b.f), slices.Concat(a.ends, b.ends)})
	g.nets[at] = whole
	g.nets = slices.Delete(g.nets, other, other+1)
}

// grow goes on, until all is one net with so many formulas.
func (g *grower) grow(formulas int) {
	count := func() int {
		n := 1 - len(g.nets)
		for _, l := range g.nets {
			n += len(l)
		}
		return n
	}
	for {
		at := g.chance.Intn(len(g.nets))
		switch other := g.chance.Intn(len(g.nets)); {
		case count() > formulas && g.free(at) > 1 && g.chance.Intn(2) == 0:
			g.putPar(at)
		case at != other && g.free(at) > 0 && g.free(other) > 0:
			g.putTensor(at, other)
		case len(g.nets) == 1 && count() <= formulas:
			return
		}
	}
}

// done is the net that is left, its formulas in any order.
func (g *grower) done() (l []api.Linear, links [][2]int) {
	whole := g.nets[0]
	g.chance.Shuffle(len(whole), func(i, j int) { whole[i], whole[j] = whole[j], whole[i] })
	return unstranded(whole)
}

// keptFirst is likewise, but with what identity began with ahead of all others.
func (g *grower) keptFirst() (l []api.Linear, links [][2]int) {
	whole := g.nets[0]
	at := slices.IndexFunc(whole, g.isKept)
	return unstranded(slices.Concat(whole[at:at+1], whole[:at], whole[at+1:]))
}

func unstranded(all []strand) (l []api.Linear, links [][2]int) {
	var ends []int
	for _, s := range all {
		l = append(l, s.f)
		ends = append(ends, s.ends...)
	}
	for leaf, end := range ends {
		if first := slices.Index(ends, end); first < leaf {
			links = append(links, [2]int{first, leaf})
		}
	}
	return l, ordered(links)
}

// grown is a correct net with so many links and formulas (one more than links at most).
func grown(chance *rand.Rand, links, formulas int, names ...string) ([]api.Linear, [][2]int) {
	g := grower{chance: chance}
	for range links {
		g.ax(names[chance.Intn(len(names))])
	}
	g.grow(formulas)
	return g.done()
}

// crossed is links with some of them crossed with others of their names; each leaf is still linked to one that goes with it.
func crossed(chance *rand.Rand, l []api.Linear, links [][2]int, times int) [][2]int {
	leaves, out := leavesOf(l...), slices.Clone(links)
	for range times {
		i, j := chance.Intn(len(out)), chance.Intn(len(out))
		if i == j || leaves[out[i][0]].Name != leaves[out[j][0]].Name {
			continue
		}
		side := 1
		if leaves[out[i][0]].Not != leaves[out[j][0]].Not {
			side = 0
		}
		out[i][1], out[j][side] = out[j][side], out[i][1]
	}
	return out
}
