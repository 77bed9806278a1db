package kripke

import (
	"maps"

	"sequent/api"
	"sequent/parts"
)

// tooMany steps are as good as any number above what a proof may have.
const tooMany = api.MaxSteps + 1

// finder has the goals that were reached from those that it was asked for, and how far they are.
type finder struct {
	table *parts.Table
	ways  map[goal][]way
	steps map[goal]int // of the shortest proof, tooMany at most; nothing stands here of a goal without one
}

func newFinder(table *parts.Table) *finder {
	return &finder{table: table, ways: map[goal][]way{}, steps: map[goal]int{}}
}

// isProved tells whether there is a proof of g.
func (f *finder) isProved(g goal) bool {
	fresh := map[goal][]way{}
	f.reach(g, fresh)
	f.settle(fresh)
	maps.Copy(f.ways, fresh)
	return f.steps[g] > 0
}

// reach adds g and all goals to which its ways lead to what is fresh. What was reached earlier stays settled, as none of its ways leads to a fresh goal.
func (f *finder) reach(g goal, fresh map[goal][]way) {
	_, isOld := f.ways[g]
	_, isHere := fresh[g]
	if isOld || isHere {
		return
	}
	fresh[g] = waysTo(g, f.table)
	for _, w := range fresh[g] {
		for _, p := range w.premises {
			f.reach(g.over(p), fresh)
		}
	}
}

// settle goes through the fresh goals until no proof gets shorter. In which order it does so does not matter: the shortest stay.
func (f *finder) settle(fresh map[goal][]way) {
	for isMoving := true; isMoving; {
		isMoving = false
		for g, ways := range fresh {
			was, known := f.steps[g]
			_, steps, found := f.shortest(g, ways)
			if found && (!known || steps < was) {
				f.steps[g] = steps
				isMoving = true
			}
		}
	}
}

// shortest is the first of the ways to g with the fewest steps, as far as they are known.
func (f *finder) shortest(g goal, ways []way) (best way, fewest int, found bool) {
	for _, w := range ways {
		steps, known := f.stepsBy(g, w)
		if known && (!found || steps < fewest) {
			best, fewest, found = w, steps, true
		}
	}
	return best, fewest, found
}

// stepsBy counts the step to g by w, and all that it needs.
func (f *finder) stepsBy(g goal, w way) (steps int, known bool) {
	steps = 1
	for _, p := range w.premises {
		more, known := f.steps[g.over(p)]
		if !known {
			return 0, false
		}
		steps += more
	}
	return min(steps, tooMany), true
}
