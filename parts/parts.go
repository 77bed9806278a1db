// Package parts numbers the formulas that stand at the nodes of others: the same formula has the same number, so that numbers tell whether two are the same.
package parts

import (
	"strings"

	"sequent/api"
)

// Part is a formula with the numbers of its Kids: the first Count of them.
type Part struct {
	Kind  int
	Name  string
	Count int
	Kids  [2]int
}

// Table holds the parts of the formulas that it was asked to number, those in a formula ahead of it.
type Table struct {
	parts   []Part
	nodes   []int
	numbers map[Part]int
}

// New is a table without parts.
func New() *Table {
	return &Table{numbers: map[Part]int{}}
}

// Number tells f's number, and holds f and what is in it from then on. It counts on formula.Check to say nothing of f.
func (t *Table) Number(f api.Formula) int {
	p := Part{Kind: f.Kind, Name: f.Name, Count: len(f.Kids)}
	for i, k := range f.Kids {
		p.Kids[i] = t.Number(k)
	}
	return t.NumberOf(p)
}

// NumberOf tells the number of the formula that p is, and holds it from then on. It counts on p's Kids to be numbers that the table has told.
func (t *Table) NumberOf(p Part) int {
	n, known := t.numbers[p]
	if !known {
		n = t.add(p)
	}
	return n
}

// add copies the name, so that the table keeps none of the memory that it was handed.
func (t *Table) add(p Part) int {
	p.Name = strings.Clone(p.Name)
	nodes := 1
	for _, k := range p.Kids[:p.Count] {
		nodes += t.nodes[k]
	}
	n := len(t.parts)
	t.parts = append(t.parts, p)
	t.nodes = append(t.nodes, nodes)
	t.numbers[p] = n
	return n
}

// Len is how many parts there are: all numbers are below it.
func (t *Table) Len() int { return len(t.parts) }

// Part is the one with the number n.
func (t *Table) Part(n int) Part { return t.parts[n] }

// Nodes is how many nodes the formula with the number n has.
func (t *Table) Nodes(n int) int { return t.nodes[n] }

// Formula is the one with the number n, in new memory.
func (t *Table) Formula(n int) api.Formula {
	p := t.parts[n]
	f := api.Formula{Kind: p.Kind, Name: p.Name}
	for _, k := range p.Kids[:p.Count] {
		f.Kids = append(f.Kids, t.Formula(k))
	}
	return f
}
