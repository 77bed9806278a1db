package classic

import (
	"slices"

	"sequent/api"
	"sequent/parts"
)

// The work of a search: workBase for each sequent, and one for each item that is looked at. A sequent of 25 nodes never comes near mostWork: as a premise has a node less than what comes of it, and each of two premises two nodes less, there are fewer than 2^13 sequents, of at most 25 items.
const (
	mostWork = 1 << 26
	workBase = 256
)

// Where an item is.
const (
	away = iota
	here
	apart // it was here, and what it is made of came in its place
)

// plan is a step of a proof, for any sequent that has what it needs.
type plan struct {
	rule  string
	of    item   // F, and where it is
	needs []item // rising, each once
	kids  []plan
}

// finder goes from a sequent to premises of which it comes, until all of them are closed, or one is open: nothing of it is left to be taken apart.
type finder struct {
	table  *parts.Table
	ways   []way
	where  []int  // of each item
	branch []item // those that are not away, in the order in which they came
	work   int
	isOpen bool
}

func newFinder(table *parts.Table) *finder {
	return &finder{table: table, ways: waysOf(table), where: make([]int, 2*table.Len())}
}

// put adds to what is here, and tells which of the items are fresh: what was here or taken apart already says nothing new.
func (f *finder) put(items []item) []item {
	var fresh []item
	for _, i := range items {
		if f.where[i] == away {
			f.where[i] = here
			fresh = append(fresh, i)
		}
	}
	f.branch = append(f.branch, fresh...)
	return fresh
}

// takeBack takes away what was put last.
func (f *finder) takeBack(fresh []item) {
	for _, i := range fresh {
		f.where[i] = away
	}
	f.branch = f.branch[:len(f.branch)-len(fresh)]
}

// find looks for a plan for what is here, of which the fresh items are new. Where there is none, either the branch stays as it is, and is open, or the work was too much.
func (f *finder) find(fresh []item) (p plan, closed bool) {
	f.work += workBase
	if f.work > mostWork {
		return plan{}, false
	}
	if at := slices.IndexFunc(fresh, f.closes); at >= 0 {
		return f.closing(fresh[at]), true
	}
	i, found := f.pick()
	if !found {
		f.isOpen = true
		return plan{}, false
	}
	return f.takeApart(i)
}

// takeApart looks for plans for all that comes in i's place.
func (f *finder) takeApart(i item) (p plan, closed bool) {
	f.where[i] = apart
	p, closed = f.overPremises(i)
	f.where[i] = here
	return p, closed
}

// overPremises makes a step of plans for the premises. A plan that needs nothing fresh does without i, and so without the step.
func (f *finder) overPremises(i item) (p plan, closed bool) {
	step := plan{rule: f.ways[i].rule, of: i, needs: []item{i}}
	for _, premise := range f.ways[i].premises {
		fresh := f.put(premise)
		kid, closed := f.find(fresh)
		if !closed {
			return plan{}, false
		}
		f.takeBack(fresh)
		isFresh := func(j item) bool { return slices.Contains(fresh, j) }
		if !slices.ContainsFunc(kid.needs, isFresh) {
			return kid, true
		}
		step.kids = append(step.kids, kid)
		step.needs = append(step.needs, slices.DeleteFunc(slices.Clone(kid.needs), isFresh)...)
	}
	slices.Sort(step.needs)
	step.needs = slices.Compact(step.needs)
	return step, true
}

// pick chooses an item that leaves the fewest premises open, so that a plan branches late. It begins with what came last, which is most often taken apart next.
func (f *finder) pick() (best item, found bool) {
	fewest := 0
	for _, i := range slices.Backward(f.branch) {
		f.work++
		if f.where[i] != here || !f.isTelling(i) {
			continue
		}
		if open := f.openPremises(i); !found || open < fewest {
			best, fewest, found = i, open, true
		}
		if fewest <= 1 {
			break
		}
	}
	return best, found
}

// isTelling: can i be taken apart, and does each premise then get something fresh? Where one does not, it is as good as what is here without i.
func (f *finder) isTelling(i item) bool {
	isFresh := func(j item) bool { return f.where[j] == away }
	for _, premise := range f.ways[i].premises {
		if !slices.ContainsFunc(premise, isFresh) {
			return false
		}
	}
	return len(f.ways[i].premises) > 0
}

// openPremises counts those that do not close at once.
func (f *finder) openPremises(i item) int {
	open := 0
	for _, premise := range f.ways[i].premises {
		if !slices.ContainsFunc(premise, f.closes) {
			open++
		}
	}
	return open
}

func (f *finder) closes(i item) bool { return f.closingRule(i) != "" }

// closingRule tells by which rule without premises a sequent with i ends, if there is one.
func (f *finder) closingRule(i item) string {
	kind := f.table.Part(i.part()).Kind
	switch {
	case kind == api.FTrue && i.isRight():
		return "true"
	case kind == api.FFalse && !i.isRight():
		return "false"
	case f.where[i.across()] == here:
		return "ax"
	}
	return ""
}

func (f *finder) closing(i item) plan {
	p := plan{rule: f.closingRule(i), of: i, needs: []item{i}}
	if p.rule == "ax" {
		p.needs = []item{atLeft(i.part()), atRight(i.part())}
	}
	return p
}

// counter are the names at the Left of what is open: where just these are true, all else of it is as its side asks.
func (f *finder) counter() []string {
	var names []string
	for _, i := range f.branch {
		if p := f.table.Part(i.part()); p.Kind == api.FVar && !i.isRight() {
			names = append(names, p.Name)
		}
	}
	slices.Sort(names)
	return names
}
