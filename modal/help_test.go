package modal_test

import (
	"math/rand"
	"slices"
	"testing"

	"sequent/api"
	"sequent/formula"
	"sequent/modal"
)

func fault(code, at int) api.Fault { return api.Fault{Code: code, At: at} }

func name(s string) api.Formula { return api.Formula{Kind: api.FVar, Name: s} }

func node(kind int, kids ...api.Formula) api.Formula {
	return api.Formula{Kind: kind, Kids: kids}
}

// below is f with so many nodes of a kind above it.
func below(kind, n int, f api.Formula) api.Formula {
	for range n {
		f = node(kind, f)
	}
	return f
}

// joined is a list of formulas as one of a kind with two Kids.
func joined(kind int, l ...api.Formula) api.Formula {
	f := l[0]
	for _, g := range l[1:] {
		f = node(kind, f, g)
	}
	return f
}

// letters are so many names of one letter each.
func letters(n int) []api.Formula {
	var l []api.Formula
	for i := range n {
		l = append(l, name(string(rune('a'+i))))
	}
	return l
}

// endless holds itself.
func endless(kind int) api.Formula {
	kids := make([]api.Formula, 1)
	kids[0] = api.Formula{Kind: kind, Kids: kids}
	return kids[0]
}

func read(t *testing.T, text string) api.Formula {
	t.Helper()
	f, e := formula.Parse(text)
	if e != (api.Fault{}) {
		t.Fatalf("Parse(%q): %v", text, e)
	}
	return f
}

// text is how Print writes f.
func text(f api.Formula) string {
	s, _ := formula.Print(f)
	return s
}

// seeing has a world for each text: it sees those whose digits it has.
func seeing(worlds ...string) api.Model {
	m := api.Model{N: len(worlds), True: make([][]string, len(worlds))}
	for from, digits := range worlds {
		for _, digit := range digits {
			m.Rel = append(m.Rel, [2]int{from, int(digit - '0')})
		}
	}
	return m
}

// having is m with other names: a text for each world, whose letters are true there.
func having(m api.Model, worlds ...string) api.Model {
	m.True = make([][]string, m.N)
	for w, names := range worlds {
		for _, letter := range names {
			m.True[w] = append(m.True[w], string(letter))
		}
	}
	return m
}

// numbered is a model with n worlds: the number's n times n digits are what they see.
func numbered(n, number int) api.Model {
	m := api.Model{N: n, True: make([][]string, n)}
	for at := range n * n {
		if number>>at&1 == 1 {
			m.Rel = append(m.Rel, [2]int{at / n, at % n})
		}
	}
	return m
}

// frames goes through all that n worlds can see.
func frames(n int) func(yield func(m api.Model) bool) {
	return func(yield func(m api.Model) bool) {
		for number := range 1 << (n * n) {
			if !yield(numbered(n, number)) {
				return
			}
		}
	}
}

// trues goes through all that can be true at n worlds of these names.
func trues(n int, names []string) func(yield func(l [][]string) bool) {
	return func(yield func(l [][]string) bool) {
		for row := range 1 << (n * len(names)) {
			l := make([][]string, n)
			for w := range n {
				for i, s := range names {
					if row>>(w*len(names)+i)&1 == 1 {
						l[w] = append(l[w], s)
					}
				}
			}
			if !yield(l) {
				return
			}
		}
	}
}

// column is the second reckoning: world by world what is true there, as the chapter says it.
func column(m api.Model, f api.Formula) []bool {
	var kids [][]bool
	for _, k := range f.Kids {
		kids = append(kids, column(m, k))
	}
	l := make([]bool, m.N)
	for w := range l {
		switch f.Kind {
		case api.FVar:
			l[w] = slices.Contains(m.True[w], f.Name)
		case api.FTrue, api.FBox:
			l[w] = true
		case api.FNot:
			l[w] = !kids[0][w]
		case api.FAnd:
			l[w] = kids[0][w] && kids[1][w]
		case api.FOr:
			l[w] = kids[0][w] || kids[1][w]
		case api.FThen:
			l[w] = !kids[0][w] || kids[1][w]
		}
	}
	for _, pair := range m.Rel {
		switch {
		case f.Kind == api.FBox && !kids[0][pair[1]]:
			l[pair[0]] = false
		case f.Kind == api.FDia && kids[0][pair[1]]:
			l[pair[0]] = true
		}
	}
	return l
}

// namesIn are all names in f, each once, rising.
func namesIn(f api.Formula) []string {
	var l []string
	if f.Kind == api.FVar {
		l = append(l, f.Name)
	}
	for _, k := range f.Kids {
		l = append(l, namesIn(k)...)
	}
	slices.Sort(l)
	return slices.Compact(l)
}

// isHeld is the second reckoning of Holds.
func isHeld(m api.Model, f api.Formula) bool {
	for l := range trues(m.N, namesIn(f)) {
		if slices.Contains(column(api.Model{N: m.N, Rel: m.Rel, True: l}, f), false) {
			return false
		}
	}
	return true
}

// shapeOf is the second reckoning of Shape, word by word.
func shapeOf(m api.Model) [6]bool {
	sees := func(u, v int) bool { return slices.Contains(m.Rel, [2]int{u, v}) }
	is, someSeesItself := [6]bool{true, true, true, true, true, true}, false
	for u := range m.N {
		is[0] = is[0] && sees(u, u)
		someSeesItself = someSeesItself || sees(u, u)
		seesSome := false
		for v := range m.N {
			seesSome = seesSome || sees(u, v)
			is[2] = is[2] && (!sees(u, v) || sees(v, u))
			for w := range m.N {
				is[1] = is[1] && (!sees(u, v) || !sees(v, w) || sees(u, w))
				is[3] = is[3] && (!sees(u, v) || !sees(u, w) || sees(v, w))
			}
		}
		is[4] = is[4] && seesSome
	}
	is[5] = is[1] && !someSeesItself
	return is
}

// bits tells six bools in six digits.
func bits(l [6]bool) string {
	text := ""
	for _, is := range l {
		if is {
			text += "1"
		} else {
			text += "0"
		}
	}
	return text
}

// formulasUpTo are all with at most so many nodes of these names.
func formulasUpTo(most int, names ...string) []api.Formula {
	bySize := make([][]api.Formula, most+1)
	bySize[1] = []api.Formula{node(api.FTrue), node(api.FFalse)}
	for _, s := range names {
		bySize[1] = append(bySize[1], name(s))
	}
	for size := 2; size <= most; size++ {
		for _, f := range bySize[size-1] {
			bySize[size] = append(bySize[size], node(api.FNot, f), node(api.FBox, f), node(api.FDia, f))
		}
		for left := 1; left < size-1; left++ {
			for _, f := range bySize[left] {
				for _, g := range bySize[size-1-left] {
					bySize[size] = append(bySize[size], node(api.FAnd, f, g), node(api.FOr, f, g), node(api.FThen, f, g))
				}
			}
		}
	}
	return slices.Concat(bySize...)
}

// anyModel has pairs and names by chance, some of them twice.
func anyModel(chance *rand.Rand, n int, names ...string) api.Model {
	m := api.Model{N: n, True: make([][]string, n)}
	for range chance.Intn(min(2000, n*n+n) + 1) {
		m.Rel = append(m.Rel, [2]int{chance.Intn(n), chance.Intn(n)})
	}
	for w := range n {
		for range chance.Intn(2*len(names) + 1) {
			m.True[w] = append(m.True[w], names[chance.Intn(len(names))])
		}
	}
	return m
}

// anyFormula has so many nodes.
func anyFormula(chance *rand.Rand, nodes int, names ...string) api.Formula {
	switch {
	case nodes == 1 && (len(names) == 0 || chance.Intn(8) == 0):
		return node(api.FTrue + chance.Intn(2))
	case nodes == 1:
		return name(names[chance.Intn(len(names))])
	case nodes == 2 || chance.Intn(2) == 0:
		kind := []int{api.FNot, api.FBox, api.FDia}[chance.Intn(3)]
		return node(kind, anyFormula(chance, nodes-1, names...))
	}
	first := 1 + chance.Intn(nodes-2)
	return node(api.FAnd+chance.Intn(3), anyFormula(chance, first, names...), anyFormula(chance, nodes-1-first, names...))
}

// The calls below hold what is answered against the second reckoning.

func evaluated(t *testing.T, m api.Model, f api.Formula) []bool {
	t.Helper()
	l, e := modal.Eval(m, f)
	if want := column(m, f); e != (api.Fault{}) || !slices.Equal(l, want) {
		t.Fatalf("%v: %s: %v, %v, want %v", m, text(f), l, e, want)
	}
	return l
}

func held(t *testing.T, m api.Model, f api.Formula) bool {
	t.Helper()
	is, e := modal.Holds(m, f)
	if want := isHeld(m, f); e != (api.Fault{}) || is != want {
		t.Fatalf("%v: %s holds: %v, %v, want %v", m, text(f), is, e, want)
	}
	return is
}

func shaped(t *testing.T, m api.Model) [6]bool {
	t.Helper()
	is, e := modal.Shape(m)
	if want := shapeOf(m); e != (api.Fault{}) || is != want {
		t.Fatalf("%v: %v, %v, want %v", m, is, e, want)
	}
	return is
}
