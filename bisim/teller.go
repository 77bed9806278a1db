package bisim

import (
	"cmp"
	"slices"

	"sequent/parts"
	"sequent/set"
)

// pair has the world at which a formula is to be true, and the one at which it is not.
type pair struct {
	yes, no int
}

// teller finds formulas that tell worlds apart.
type teller struct {
	view
	levels [][]int
	table  *parts.Table
	found  map[pair]saying
}

func newTeller(v view) *teller {
	return &teller{view: v, levels: levelsOf(v), table: parts.New(), found: map[pair]saying{}}
}

// level is the first at which two worlds are parted, or how many there are, if they are at none.
func (t *teller) level(u, v int) int {
	for at, classes := range t.levels {
		if classes[u] != classes[v] {
			return at
		}
	}
	return len(t.levels)
}

func (t *teller) isAlike(u, v int) bool { return t.level(u, v) == len(t.levels) }

// apart is true at yes, and not at no; they are not alike.
//
// It has at most 2^(n - 1) - 1 nodes, where there are n classes (with two classes at most two nodes). For a formula of level j, with at most j of FBox and FDia in one another, is the same at all worlds of one class there: so of the worlds that are parted from w at level j one formula is taken for each class, at most. If level j has s classes more than the one ahead of it, and its formulas have at most t nodes, those of the next level have at most t + s (t + 1): t + 1 grows (1 + s)-fold, which comes to most where each s is 1.
func (t *teller) apart(yes, no int) saying {
	key := pair{yes, no}
	f, known := t.found[key]
	if !known {
		f = t.newApart(yes, no)
		t.found[key] = f
	}
	return f
}

func (t *teller) newApart(yes, no int) saying {
	at := t.level(yes, no)
	if at == 0 {
		return t.byName(yes, no)
	}
	return t.bySight(yes, no, t.levels[at-1])
}

// byName takes a name that just one of both has.
func (t *teller) byName(yes, no int) saying {
	for _, name := range t.names[yes] {
		if !slices.Contains(t.names[no], name) {
			return t.name(name)
		}
	}
	lacks := func(name string) bool { return !slices.Contains(t.names[yes], name) }
	return t.not(t.name(t.names[no][slices.IndexFunc(t.names[no], lacks)]))
}

// bySight goes by a world that one of both sees, and whose class the other one does not see: the smallest formula of all that come so.
func (t *teller) bySight(yes, no int, classes []int) saying {
	var all []saying
	for _, w := range t.unmatched(yes, no, classes) {
		all = append(all, t.dia(t.trueOnlyAt(w, t.sees[no])))
	}
	for _, w := range t.unmatched(no, yes, classes) {
		all = append(all, t.box(t.falseOnlyAt(w, t.sees[yes])))
	}
	return slices.MinFunc(all, func(f, g saying) int { return cmp.Compare(t.nodes(f), t.nodes(g)) })
}

// unmatched are the worlds that u sees, and whose classes v does not see.
func (t *teller) unmatched(u, v int, classes []int) []int {
	matched := t.classesSeen(v, classes)
	return slices.DeleteFunc(t.seen(u), func(w int) bool { return matched.Has(classes[w]) })
}

// trueOnlyAt is true at w, and at none of the others.
func (t *teller) trueOnlyAt(w int, others set.Set) saying {
	tell := func(other int) saying { return t.apart(w, other) }
	f := t.always()
	for _, other := range t.hardestFirst(others, tell) {
		if f.where.Has(other) {
			f = t.and(f, tell(other))
		}
	}
	return f
}

// falseOnlyAt is true at all of the others, and not at w.
func (t *teller) falseOnlyAt(w int, others set.Set) saying {
	tell := func(other int) saying { return t.apart(other, w) }
	f := t.never()
	for _, other := range t.hardestFirst(others, tell) {
		if !f.where.Has(other) {
			f = t.or(f, tell(other))
		}
	}
	return f
}

// hardestFirst begins with the worlds that take the largest formulas: these often speak of others, too.
func (t *teller) hardestFirst(worlds set.Set, tell func(w int) saying) []int {
	l := worlds.Members(len(t.sees))
	slices.SortStableFunc(l, func(v, w int) int { return cmp.Compare(t.nodes(tell(w)), t.nodes(tell(v))) })
	return l
}
