package lambda

import (
	"math"
	"strings"

	"sequent/api"
	"sequent/stop"
)

// Of terms with few nodes ErrMuch is not told, unless the answer would pass what may be answered at all.
const (
	fewNodes     = 24
	mostBytes    = 1<<31 - 1
	manyBytes    = 1 << 28 // more than any term of MaxTerm nodes has of which nothing is left to be done
	manySteps    = 1 << 22 // likewise
	termBytes    = 88
	formulaBytes = 48
)

// bounds are how much may be done, and how much may come out.
type bounds struct {
	work, bytes int
}

func boundsFor(nodes int) bounds {
	if nodes <= fewNodes {
		return bounds{work: math.MaxInt, bytes: mostBytes}
	}
	return bounds{work: manySteps, bytes: manyBytes}
}

// job is to write a cell's value under so many names; without a place it is measured alone.
type job struct {
	cell  *cell
	names int
	to    *api.Term
}

// writer writes values and all that is in them. It has a list of jobs for the machine's reason.
type writer struct {
	machine machine
	jobs    []job
	bytes   int
	most    int
}

// write puts what t comes to, under so many names of a context, to its place.
func write(names int, t api.Term, most bounds, to *api.Term) {
	w := writer{machine: machine{most: most.work}, most: most.bytes}
	var around *scope
	for level := range names {
		around = around.with(nameAt(level))
	}
	w.jobs = []job{{cell: &cell{term: &t, scope: around}, names: names, to: to}}
	for len(w.jobs) > 0 {
		last := len(w.jobs) - 1
		j := w.jobs[last]
		w.jobs = w.jobs[:last]
		w.do(j)
	}
}

func (w *writer) do(j job) {
	v := w.machine.valueOf(j.cell)
	w.measure(v)
	if j.to != nil {
		*j.to = nodeOf(v, j.names)
	}
	if v.node == nil {
		return
	}
	for i := len(v.node.Kids) - 1; i >= 0; i-- {
		w.jobs = append(w.jobs, jobFor(v, i, j))
	}
}

// jobFor is the one that writes the Kid i of v, which j writes.
func jobFor(v *value, i int, j job) job {
	kid := job{names: j.names}
	if bindsName(v.kind, i) {
		kid.cell = &cell{term: &v.node.Kids[i], scope: v.scope.with(nameAt(j.names))}
		kid.names++
	} else {
		kid.cell = v.kids[i]
	}
	if j.to != nil {
		kid.to = &j.to.Kids[i]
	}
	return kid
}

func (w *writer) measure(v *value) {
	w.bytes += termBytes
	if v.node != nil {
		w.bytes += bytesIn(v.node.Of)
	}
	if w.bytes > w.most {
		stop.At(api.ErrMuch, 0)
	}
}

// nodeOf is v's first node under so many names, with room for its Kids.
func nodeOf(v *value, names int) api.Term {
	if v.node == nil {
		return api.Term{Kind: api.TVar, I: names - 1 - v.level}
	}
	t := api.Term{Kind: v.kind, Of: copyOf(v.node.Of)}
	if len(v.node.Kids) > 0 {
		t.Kids = make([]api.Term, len(v.node.Kids))
	}
	return t
}

// bytesIn counts what f takes beside its first node, which lies in a term or in a list.
func bytesIn(f api.Formula) int {
	n := len(f.Name)
	for _, k := range f.Kids {
		n += formulaBytes + bytesIn(k)
	}
	return n
}

// copyOf is f in new memory: each node of an answer has its own.
func copyOf(f api.Formula) api.Formula {
	out := api.Formula{Kind: f.Kind, Name: strings.Clone(f.Name)}
	if len(f.Kids) > 0 {
		out.Kids = make([]api.Formula, len(f.Kids))
	}
	for i, k := range f.Kids {
		out.Kids[i] = copyOf(k)
	}
	return out
}
