package unify

import (
	"strings"

	"sequent/api"
	"sequent/syntax"
)

// graph has the nodes of words, one for each variable, wherever it stands, and one for each place of a big name. Nodes that must become the same are one class. As each class is one thing, however often it stands in others, the work stays small where what comes out is large.
type graph struct {
	nodes     []node
	variables map[string]int // their nodes
}

type node struct {
	name string
	args []int
	next int // one of the same class that is closer to its root; the root itself
}

func newGraph() *graph {
	return &graph{variables: map[string]int{}}
}

// add answers the node of the word.
func (g *graph) add(w api.Word) int {
	if at, known := g.variables[w.Name]; known {
		return at
	}
	var args []int
	for _, a := range w.Args {
		args = append(args, g.add(a))
	}
	at := len(g.nodes)
	g.nodes = append(g.nodes, node{name: w.Name, args: args, next: at})
	if syntax.IsVariable(w.Name) {
		g.variables[w.Name] = at
	}
	return at
}

// root tells what a class becomes: a variable is one just where all in the class are variables.
func (g *graph) root(at int) int {
	for g.nodes[at].next != at {
		next := g.nodes[at].next
		g.nodes[at].next = g.nodes[next].next
		at = next
	}
	return at
}

func (g *graph) isVariable(at int) bool { return syntax.IsVariable(g.nodes[at].name) }

// merge makes the two one class, and then what is in them. In this order the same two are never gone through again, so that there are fewer classes that become one than nodes, and it ends where a word stands in itself, too.
func (g *graph) merge(a, b int) {
	a, b = g.root(a), g.root(b)
	if a == b {
		return
	}
	if g.isVariable(b) {
		a, b = b, a
	}
	v, w := g.nodes[a], g.nodes[b]
	if !g.isVariable(a) && (v.name != w.name || len(v.args) != len(w.args)) {
		clash()
	}
	g.nodes[a].next = b
	for i, arg := range v.args {
		g.merge(arg, w.args[i])
	}
}

// size is how many nodes the words of binds have together, or more than mostNodes. It clashes where a word would stand in itself. It is enough to look at what variables become: a word can stand in itself only by way of one of them.
func (g *graph) size() int {
	s, n := sizes{g, map[int]int{}}, 0
	for _, at := range g.variables {
		if g.root(at) != at {
			n += s.of(at)
		}
	}
	return n
}

// sizes has how many nodes the word of each class has, by its root.
type sizes struct {
	*graph
	known map[int]int
}

// inWork stands for a size that is not known yet.
const inWork = 0

// of never tells much more than what is too much, so that it stays a number.
func (s sizes) of(at int) int {
	at = s.root(at)
	if n, known := s.known[at]; known {
		if n == inWork {
			clash()
		}
		return n
	}
	s.known[at] = inWork
	n := 1
	for _, arg := range s.nodes[at].args {
		n = min(n+s.of(arg), mostNodes+1)
	}
	s.known[at] = n
	return n
}

// binds takes no word to stand in itself.
func (g *graph) binds() []api.Bind {
	var l []api.Bind
	for name, at := range g.variables {
		if g.root(at) != at {
			l = append(l, api.Bind{Name: strings.Clone(name), Word: g.word(at)})
		}
	}
	sortBinds(l)
	return l
}

// word is what the node has become, in new memory.
func (g *graph) word(at int) api.Word {
	n := g.nodes[g.root(at)]
	w := api.Word{Name: strings.Clone(n.name)}
	for _, arg := range n.args {
		w.Args = append(w.Args, g.word(arg))
	}
	return w
}
