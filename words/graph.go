package words

import (
	"iter"
	"strings"

	"sequent/api"
	"sequent/stop"
	"sequent/syntax"
)

// Graph has the nodes of words, one for each variable, wherever it stands, and one for each place of a big name. Nodes that must become the same are one class. As each class is one thing, however often it stands in others, the work stays small where what comes out is large.
type Graph struct {
	nodes     []node
	variables map[variable]int // their nodes
}

// variable is one of a side: those of other sides are other ones, whatever their names are.
type variable struct {
	side int
	name string
}

type node struct {
	name string
	args []int
	next int // one of the same class that is closer to its root; the root itself
}

// Node is what a class becomes: a variable just where all in the class are variables.
type Node struct {
	Class int // another number for each class
	Name  string
	Args  []int
}

// IsVariable: the words have names that are right, so that one that is not big is a variable's.
func (n Node) IsVariable() bool { return !syntax.IsBig(n.Name) }

// NewGraph has no nodes yet.
func NewGraph() *Graph {
	return &Graph{variables: map[variable]int{}}
}

// Len is how many nodes there are.
func (g *Graph) Len() int { return len(g.nodes) }

// Add answers the node of a word of the side. The word is taken to be right by itself.
func (g *Graph) Add(side int, w api.Word) int {
	v := variable{side, w.Name}
	if at, known := g.variables[v]; known {
		return at
	}
	var args []int
	for _, a := range w.Args {
		args = append(args, g.Add(side, a))
	}
	at := len(g.nodes)
	g.nodes = append(g.nodes, node{name: w.Name, args: args, next: at})
	if g.At(at).IsVariable() {
		g.variables[v] = at
	}
	return at
}

// At tells what the node has become.
func (g *Graph) At(at int) Node {
	root := g.root(at)
	n := g.nodes[root]
	return Node{Class: root, Name: n.name, Args: n.args}
}

func (g *Graph) root(at int) int {
	for g.nodes[at].next != at {
		next := g.nodes[at].next
		g.nodes[at].next = g.nodes[next].next
		at = next
	}
	return at
}

// Merge makes the two one class, and then what is in them, or ends the work by api.ErrNone. In this order the same two are never gone through again, so that there are fewer classes that become one than nodes, and it ends where a word stands in itself, too.
func (g *Graph) Merge(a, b int) {
	v, w := g.At(a), g.At(b)
	if v.Class == w.Class {
		return
	}
	if w.IsVariable() {
		v, w = w, v
	}
	if !v.IsVariable() && (v.Name != w.Name || len(v.Args) != len(w.Args)) {
		Clash()
	}
	g.nodes[v.Class].next = w.Class
	for i, arg := range v.Args {
		g.Merge(arg, w.Args[i])
	}
}

// Clash ends the work where nothing makes the words the same.
func Clash() { stop.At(api.ErrNone, 0) }

// Bound yields the variables of the side that have become something else, in no order, and their nodes.
func (g *Graph) Bound(side int) iter.Seq2[string, int] {
	return func(yield func(string, int) bool) {
		for v, at := range g.variables {
			if v.side == side && g.root(at) != at && !yield(v.name, at) {
				return
			}
		}
	}
}

// Word is what the node has become, in new memory, with what name tells of its variables. No word may stand in itself.
func (g *Graph) Word(at int, name func(Node) string) api.Word {
	n := g.At(at)
	if n.IsVariable() {
		return api.Word{Name: name(n)}
	}
	w := api.Word{Name: strings.Clone(n.Name)}
	for _, arg := range n.Args {
		w.Args = append(w.Args, g.Word(arg, name))
	}
	return w
}

// Sizes tell how many nodes the words of a graph have.
type Sizes struct {
	graph *Graph
	most  int
	known map[int]int // by classes
}

// inWork stands for a size that is not known yet.
const inWork = 0

// Sizes ends the work by api.ErrNone where a word would stand in itself. It is enough to look at what variables become: a word can stand in itself only by way of one of them.
func (g *Graph) Sizes(most int) Sizes {
	s := Sizes{g, most, map[int]int{}}
	for _, at := range g.variables {
		s.Of(at)
	}
	return s
}

// Of tells one more than most of all words that are larger, so that it stays a number.
func (s Sizes) Of(at int) int {
	n := s.graph.At(at)
	if size, known := s.known[n.Class]; known {
		if size == inWork {
			Clash()
		}
		return size
	}
	s.known[n.Class] = inWork
	size := 1
	for _, arg := range n.Args {
		size = min(size+s.Of(arg), s.most+1)
	}
	s.known[n.Class] = size
	return size
}
