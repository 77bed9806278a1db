package classic

import (
	"slices"

	"sequent/api"
	"sequent/parts"
)

const (
	mostFormulas = 60      // of a sequent
	mostNodes    = 1 << 21 // of all formulas in a proof together: it stays far below what an answer may have
)

// writer makes a plan a proof, and counts what it writes. What the plan does not need goes along, or, if the writer is lean, is left behind: that takes more steps, but shorter ones.
type writer struct {
	table  *parts.Table
	ways   []way
	isLean bool
	steps  int
	nodes  int
}

// write makes p a proof of end, which has all that p needs, unless that passes a limit.
func (w *writer) write(p plan, end []item, deep int) (out api.Proof, fits bool) {
	if !w.hasRoom(end, deep) {
		return api.Proof{}, false
	}
	if w.leavesBehind(p, end) {
		kid, fits := w.write(p, p.needs, deep+1)
		return api.Proof{Rule: "weak", End: w.sequent(end), Kids: []api.Proof{kid}}, fits
	}
	out = api.Proof{Rule: p.rule, F: w.table.Formula(p.of.part()), End: w.sequent(end)}
	for at, k := range p.kids {
		kid, fits := w.write(k, w.premise(p.of, at, end), deep+1)
		if !fits {
			return api.Proof{}, false
		}
		out.Kids = append(out.Kids, kid)
	}
	return out, true
}

// hasRoom counts one more step with this end.
func (w *writer) hasRoom(end []item, deep int) bool {
	w.steps++
	for _, i := range end {
		w.nodes += w.table.Nodes(i.part())
	}
	return w.steps <= api.MaxSteps && deep <= api.MaxDeep && len(end) <= mostFormulas && w.nodes <= mostNodes
}

// leavesBehind: does a step by weak come first? Where p has no premises, nothing grows any more.
func (w *writer) leavesBehind(p plan, end []item) bool {
	return w.isLean && len(p.kids) > 0 && len(p.needs) < len(end)
}

// premise is the one with this number of those that come of taking i apart.
func (w *writer) premise(i item, number int, end []item) []item {
	at := slices.Index(end, i)
	return slices.Concat(end[:at], end[at+1:], w.ways[i].premises[number])
}

func (w *writer) sequent(end []item) api.Sequent {
	var s api.Sequent
	for _, i := range end {
		f := w.table.Formula(i.part())
		if i.isRight() {
			s.Right = append(s.Right, f)
		} else {
			s.Left = append(s.Left, f)
		}
	}
	return s
}
