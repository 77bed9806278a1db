package resolve

import (
	"slices"

	"sequent/api"
	"sequent/stop"
	"sequent/words"
)

// outcome is the clause that comes of a step. Its words stay in a graph, as they may be much larger than a clause may be.
type outcome struct {
	graph    *words.Graph
	literals []placed
	sizes    words.Sizes // of its words
}

// placed is a literal whose words are nodes of a graph.
type placed struct {
	not   bool
	name  string
	words []int
}

// Sides of a graph: a variable of one clause is none of the other's.
const (
	sideA = 0
	sideB = 1
)

// proof is what steps may name: clauses, and the steps ahead.
type proof struct {
	given [][]api.Literal
	steps []api.Infer
}

// outcome takes all that the step names to be there. It tells whether anything comes of it.
func (p proof) outcome(s api.Infer) (o outcome, is bool) {
	o.graph = words.NewGraph()
	f := stop.Caught(func() {
		switch s.Kind {
		case isGiven:
			o.literals = o.place(sideA, p.given[s.A])
		case resolves:
			o.literals = o.resolve(p.steps[s.A].Clause, p.steps[s.B].Clause, s.I, s.J)
		case joins:
			o.literals = o.join(p.steps[s.A].Clause, s.I, s.J)
		}
		// Words that would stand in themselves are told here.
		o.sizes = o.graph.Sizes(api.MaxNodes)
	})
	return o, f.Code == api.OK
}

func (o outcome) place(side int, c []api.Literal) []placed {
	var out []placed
	for _, l := range c {
		p := placed{not: l.Not, name: l.Name}
		for _, w := range l.Words {
			p.words = append(p.words, o.graph.Add(side, w))
		}
		out = append(out, p)
	}
	return out
}

func (o outcome) resolve(a, b []api.Literal, i, j int) []placed {
	if a[i].Not == b[j].Not {
		words.Clash()
	}
	left, right := o.place(sideA, a), o.place(sideB, b)
	o.makeSame(left[i], right[j])
	return append(without(left, i), without(right, j)...)
}

func (o outcome) join(a []api.Literal, i, j int) []placed {
	if i == j || a[i].Not != a[j].Not {
		words.Clash()
	}
	l := o.place(sideA, a)
	o.makeSame(l[i], l[j])
	return without(l, j)
}

func without(l []placed, at int) []placed { return slices.Delete(l, at, at+1) }

// makeSame makes the literals the same but for Not.
func (o outcome) makeSame(v, w placed) {
	if v.name != w.name || len(v.words) != len(w.words) {
		words.Clash()
	}
	for i := range len(v.words) {
		o.graph.Merge(v.words[i], w.words[i])
	}
}
