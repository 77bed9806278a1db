package modlog_test

import (
	"math/rand"
	"reflect"
	"slices"
	"testing"

	"sequent/api"
	"sequent/formula"
	"sequent/kripke"
	"sequent/modal"
	"sequent/modlog"
)

// The logics, by their numbers.
const (
	K = iota + 1
	D
	T
	K4
	S4
	S5
	B
	GL
)

// logics has their names; there is none with the number 0.
var logics = []string{K: "K", D: "D", T: "T", K4: "K4", S4: "S4", S5: "S5", B: "B", GL: "GL"}

func fault(code, at int) api.Fault { return api.Fault{Code: code, At: at} }

func name(s string) api.Formula { return api.Formula{Kind: api.FVar, Name: s} }

func node(kind int, kids ...api.Formula) api.Formula {
	return api.Formula{Kind: kind, Kids: kids}
}

// below is f with so many nodes of a kind above it.
func below(kind, n int, f api.Formula) api.Formula {
	for range n {
		f = node(kind, f)
	}
	return f
}

// doubled is f joined with itself, and that again, so many times: with twice as many nodes each time, and one part more.
func doubled(kind, n int, f api.Formula) api.Formula {
	for range n {
		f = node(kind, f, f)
	}
	return f
}

// joined is a list of formulas as one of a kind with two Kids.
func joined(kind int, l ...api.Formula) api.Formula {
	f := l[0]
	for _, g := range l[1:] {
		f = node(kind, f, g)
	}
	return f
}

// letters are so many names of one letter each.
func letters(n int) []api.Formula {
	var l []api.Formula
	for i := range n {
		l = append(l, name(string(rune('a'+i))))
	}
	return l
}

// endless holds itself.
func endless(kind int) api.Formula {
	kids := make([]api.Formula, 1)
	kids[0] = api.Formula{Kind: kind, Kids: kids}
	return kids[0]
}

func read(t *testing.T, text string) api.Formula {
	t.Helper()
	f, e := formula.Parse(text)
	if e != (api.Fault{}) {
		t.Fatalf("Parse(%q): %v", text, e)
	}
	return f
}

// text is how Print writes f.
func text(f api.Formula) string {
	s, _ := formula.Print(f)
	return s
}

// partsIn counts the formulas at f's nodes, each once.
func partsIn(f api.Formula) int {
	all, _ := formula.Parts(f)
	return len(all)
}

func nodesIn(f api.Formula) int {
	n := 1
	for _, k := range f.Kids {
		n += nodesIn(k)
	}
	return n
}

// formulasUpTo are all with at most so many nodes of these kinds and names.
func formulasUpTo(most int, one, two []int, names ...string) []api.Formula {
	bySize := make([][]api.Formula, most+1)
	bySize[1] = []api.Formula{node(api.FTrue), node(api.FFalse)}
	for _, s := range names {
		bySize[1] = append(bySize[1], name(s))
	}
	for size := 2; size <= most; size++ {
		for _, f := range bySize[size-1] {
			for _, kind := range one {
				bySize[size] = append(bySize[size], node(kind, f))
			}
		}
		for left := 1; left < size-1; left++ {
			for _, f := range bySize[left] {
				for _, g := range bySize[size-1-left] {
					for _, kind := range two {
						bySize[size] = append(bySize[size], node(kind, f, g))
					}
				}
			}
		}
	}
	return slices.Concat(bySize...)
}

// modalUpTo are all formulas with at most so many nodes of these names.
func modalUpTo(most int, names ...string) []api.Formula {
	return formulasUpTo(most, []int{api.FNot, api.FBox, api.FDia}, []int{api.FAnd, api.FOr, api.FThen}, names...)
}

// plainUpTo likewise, without FBox and FDia.
func plainUpTo(most int, names ...string) []api.Formula {
	return formulasUpTo(most, []int{api.FNot}, []int{api.FAnd, api.FOr, api.FThen}, names...)
}

// anyFormula has so many nodes, of these kinds with one Kid.
func anyFormula(chance *rand.Rand, nodes int, one []int, names ...string) api.Formula {
	switch {
	case nodes == 1 && chance.Intn(8) == 0:
		return node(api.FTrue + chance.Intn(2))
	case nodes == 1:
		return name(names[chance.Intn(len(names))])
	case nodes == 2 || chance.Intn(2) == 0:
		return node(one[chance.Intn(len(one))], anyFormula(chance, nodes-1, one, names...))
	}
	first := 1 + chance.Intn(nodes-2)
	left := anyFormula(chance, first, one, names...)
	return node(api.FAnd+chance.Intn(3), left, anyFormula(chance, nodes-1-first, one, names...))
}

// anyModal has up to so many parts.
func anyModal(chance *rand.Rand, most int, names ...string) api.Formula {
	for {
		f := anyFormula(chance, 1+chance.Intn(18), []int{api.FNot, api.FBox, api.FBox, api.FDia}, names...)
		if partsIn(f) <= most {
			return f
		}
	}
}

// column tells world by world where f is true, as chapter 9 says it, of any number of worlds.
func column(m api.Model, f api.Formula) []bool {
	var kids [][]bool
	for _, k := range f.Kids {
		kids = append(kids, column(m, k))
	}
	l := make([]bool, m.N)
	for w := range l {
		switch f.Kind {
		case api.FVar:
			l[w] = slices.Contains(m.True[w], f.Name)
		case api.FTrue, api.FBox:
			l[w] = true
		case api.FNot:
			l[w] = !kids[0][w]
		case api.FAnd:
			l[w] = kids[0][w] && kids[1][w]
		case api.FOr:
			l[w] = kids[0][w] || kids[1][w]
		case api.FThen:
			l[w] = !kids[0][w] || kids[1][w]
		}
	}
	for _, pair := range m.Rel {
		switch {
		case f.Kind == api.FBox && !kids[0][pair[1]]:
			l[pair[0]] = false
		case f.Kind == api.FDia && kids[0][pair[1]]:
			l[pair[0]] = true
		}
	}
	return l
}

// isOf tells whether a model with such a Shape is one of the logic, as chapter 10's table says; of GL without ways on that have no end.
func isOf(logic int, shape [6]bool) bool {
	itself, beyond, back, some, without := shape[0], shape[1], shape[2], shape[4], shape[5]
	return []bool{K: true, D: some, T: itself, K4: beyond, S4: itself && beyond, S5: itself && beyond && back, B: itself && back, GL: beyond && without}[logic]
}

// shapeOf is a second reckoning of chapter 9's Shape, of any number of worlds.
func shapeOf(m api.Model) [6]bool {
	seen := make([][]bool, m.N)
	for w := range seen {
		seen[w] = make([]bool, m.N)
	}
	for _, pair := range m.Rel {
		seen[pair[0]][pair[1]] = true
	}
	is, someSeesItself := [6]bool{true, true, true, true, true, true}, false
	for u := range m.N {
		is[0] = is[0] && seen[u][u]
		someSeesItself = someSeesItself || seen[u][u]
		is[4] = is[4] && slices.Contains(seen[u], true)
		for v := range m.N {
			is[2] = is[2] && (!seen[u][v] || seen[v][u])
			for w := range m.N {
				is[1] = is[1] && (!seen[u][v] || !seen[v][w] || seen[u][w])
				is[3] = is[3] && (!seen[u][v] || !seen[u][w] || seen[v][w])
			}
		}
	}
	is[5] = is[1] && !someSeesItself
	return is
}

// hasEndlessWay: worlds that see none go, again and again; what is left sees on and on.
func hasEndlessWay(m api.Model) bool {
	isLeft := slices.Repeat([]bool{true}, m.N)
	for range m.N {
		goesOn := make([]bool, m.N)
		for _, pair := range m.Rel {
			goesOn[pair[0]] = goesOn[pair[0]] || isLeft[pair[1]]
		}
		isLeft = goesOn
	}
	return slices.Contains(isLeft, true)
}

// isCounter looks that m is a model of the logic at whose world 0 f is not true.
func isCounter(t *testing.T, logic int, f api.Formula, m api.Model) {
	t.Helper()
	said := logics[logic] + ": " + text(f)
	if m.N < 1 || m.N > 1<<api.MaxSubs || len(m.True) != m.N {
		t.Fatalf("%s: a model with %d worlds, and %d lists of names", said, m.N, len(m.True))
	}
	for _, pair := range m.Rel {
		if min(pair[0], pair[1]) < 0 || max(pair[0], pair[1]) >= m.N {
			t.Fatalf("%s: the pair %v", said, pair)
		}
	}
	for w, names := range m.True {
		isNone := func(s string) bool { return formula.Check(name(s)) != (api.Fault{}) }
		if len(names) > 30 || slices.ContainsFunc(names, isNone) {
			t.Fatalf("%s: world %d has %q", said, w, names)
		}
	}
	shape := shapeOf(m)
	if !isOf(logic, shape) || logic == GL && hasEndlessWay(m) {
		t.Fatalf("%s: %v is no model of the logic", said, m)
	}
	if column(m, f)[0] {
		t.Fatalf("%s: true at world 0 of %v", said, m)
	}
	if m.N > api.MaxWorld || len(m.Rel) > 2*api.MaxList {
		return
	}
	e := kripke.Check(m)
	layer9, _ := modal.Shape(m)
	l, _ := modal.Eval(m, f)
	if e != (api.Fault{}) || layer9 != shape || l[0] {
		t.Fatalf("%s: of %v the layers above say %v, %v, %v", said, m, e, layer9, l)
	}
}

// asked asks Decide, and looks at all that it answers, but whether true is right.
func asked(t *testing.T, logic int, f api.Formula) bool {
	t.Helper()
	valid, m, e := modlog.Decide(logic, f)
	switch {
	case e != api.Fault{}:
		t.Fatalf("%s: %s: fault %v", logics[logic], text(f), e)
	case !valid:
		isCounter(t, logic, f, m)
	case !reflect.DeepEqual(m, api.Model{}):
		t.Fatalf("%s: %s: valid, with a model against it", logics[logic], text(f))
	}
	return valid
}

// decided holds the answer against the second reckoning.
func decided(t *testing.T, logic int, f api.Formula) bool {
	t.Helper()
	valid := asked(t, logic, f)
	if want := isValid(logic, f); valid != want {
		t.Fatalf("%s: %s: %v, want %v", logics[logic], text(f), valid, want)
	}
	return valid
}

// digits tells of each logic whether f is valid in it.
func digits(t *testing.T, f api.Formula) string {
	t.Helper()
	text := ""
	for logic := K; logic <= GL; logic++ {
		if decided(t, logic, f) {
			text += "1"
		} else {
			text += "0"
		}
	}
	return text
}
