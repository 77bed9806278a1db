package bisim_test

import (
	"math/rand"
	"reflect"
	"slices"
	"testing"

	"sequent/api"
	"sequent/bisim"
	"sequent/formula"
	"sequent/kripke"
	"sequent/modal"
)

func fault(code, at int) api.Fault { return api.Fault{Code: code, At: at} }

func name(s string) api.Formula { return api.Formula{Kind: api.FVar, Name: s} }

func node(kind int, kids ...api.Formula) api.Formula {
	return api.Formula{Kind: kind, Kids: kids}
}

// text is how Print writes f.
func text(f api.Formula) string {
	s, _ := formula.Print(f)
	return s
}

// seeing has a world for each text: it sees those whose digits it has.
func seeing(worlds ...string) api.Model {
	m := api.Model{N: len(worlds), True: make([][]string, len(worlds))}
	for from, digits := range worlds {
		for _, digit := range digits {
			m.Rel = append(m.Rel, [2]int{from, int(digit - '0')})
		}
	}
	return m
}

// having is m with other names: a text for each world, whose letters are true there.
func having(m api.Model, worlds ...string) api.Model {
	m.True = make([][]string, m.N)
	for w, names := range worlds {
		for _, letter := range names {
			m.True[w] = append(m.True[w], string(letter))
		}
	}
	return m
}

// made has n worlds without names, of which one sees another, if it is so.
func made(n int, sees func(u, v int) bool) api.Model {
	m := api.Model{N: n, True: make([][]string, n)}
	for u := range n {
		for v := range n {
			if sees(u, v) {
				m.Rel = append(m.Rel, [2]int{u, v})
			}
		}
	}
	return m
}

// line sees from world to world, up to the last.
func line(n int) api.Model { return made(n, func(u, v int) bool { return v == u+1 }) }

// ring sees on from the last to the first.
func ring(n int) api.Model { return made(n, func(u, v int) bool { return v == (u+1)%n }) }

// beside has the worlds of both, those of the second behind those of the first.
func beside(m, other api.Model) api.Model {
	both := api.Model{N: m.N + other.N, Rel: slices.Clone(m.Rel), True: slices.Concat(m.True, other.True)}
	for _, pair := range other.Rel {
		both.Rel = append(both.Rel, [2]int{pair[0] + m.N, pair[1] + m.N})
	}
	return both
}

// moved is m with its world w at the place places[w].
func moved(m api.Model, places []int) api.Model {
	out := api.Model{N: m.N, True: make([][]string, m.N)}
	for _, pair := range m.Rel {
		out.Rel = append(out.Rel, [2]int{places[pair[0]], places[pair[1]]})
	}
	for w, names := range m.True {
		out.True[places[w]] = names
	}
	return out
}

// numbered is a model with n worlds: the number's n times n digits are what they see, the n digits behind these where p is true.
func numbered(n, number int) api.Model {
	m := made(n, func(u, v int) bool { return number>>(u*n+v)&1 == 1 })
	for w := range n {
		if number>>(n*n+w)&1 == 1 {
			m.True[w] = []string{"p"}
		}
	}
	return m
}

// smallModels goes through all with up to three worlds and the name p.
func smallModels(yield func(m api.Model) bool) {
	for n := 1; n <= 3; n++ {
		for number := range 1 << (n*n + n) {
			if !yield(numbered(n, number)) {
				return
			}
		}
	}
}

// anyModel has pairs and names by chance, some of them twice; so many pairs go out of each world, more or less.
func anyModel(chance *rand.Rand, n int, pairs float64, names ...string) api.Model {
	m := api.Model{N: n, True: make([][]string, n)}
	for range min(2000, int(pairs*float64(n))) {
		m.Rel = append(m.Rel, [2]int{chance.Intn(n), chance.Intn(n)})
	}
	for w := range n {
		for range chance.Intn(2*len(names) + 1) {
			m.True[w] = append(m.True[w], names[chance.Intn(len(names))])
		}
	}
	return m
}

// someModel is one with up to so many worlds that see few or many, with no names, one or two.
func someModel(chance *rand.Rand, most int) api.Model {
	names := []string{"p", "letters"}[:chance.Intn(3)]
	return anyModel(chance, 1+chance.Intn(most), []float64{0.3, 0.7, 1, 1.5, 2, 3, 6}[chance.Intn(7)], names...)
}

// rising are the names, each once.
func rising(names []string) []string {
	l := slices.Clone(names)
	slices.Sort(l)
	return slices.Compact(l)
}

// alike is the second reckoning, word by word: of all relations by which worlds are alike it is the greatest. Pairs go, until none is left that may not stand in it.
func alike(m api.Model) [][]bool {
	is := make([][]bool, m.N)
	for u := range is {
		for v := range m.N {
			is[u] = append(is[u], slices.Equal(rising(m.True[u]), rising(m.True[v])))
		}
	}
	seen := make([][]int, m.N)
	for _, pair := range m.Rel {
		seen[pair[0]] = append(seen[pair[0]], pair[1])
	}
	isMet := func(u, v int) bool {
		for _, w := range seen[u] {
			if !slices.ContainsFunc(seen[v], func(x int) bool { return is[w][x] || is[x][w] }) {
				return false
			}
		}
		return true
	}
	for isLess := true; isLess; {
		isLess = false
		for u := range is {
			for v := range is {
				if is[u][v] && !(isMet(u, v) && isMet(v, u)) {
					is[u][v], is[v][u], isLess = false, false, true
				}
			}
		}
	}
	return is
}

// classesOf is the second reckoning of Classes.
func classesOf(m api.Model) []int {
	is, next := alike(m), 0
	var l []int
	for w := range m.N {
		first := slices.Index(is[w], true)
		if first < w {
			l = append(l, l[first])
		} else {
			l = append(l, next)
			next++
		}
	}
	return l
}

// shrunkOf is the second reckoning of Shrink: of all pairs of m, not of some world's.
func shrunkOf(m api.Model) api.Model {
	classes := classesOf(m)
	out := api.Model{N: 1 + slices.Max(classes)}
	out.True = make([][]string, out.N)
	for w, class := range classes {
		out.True[class] = rising(m.True[w])
	}
	for u := range out.N {
		for v := range out.N {
			isPair := func(pair [2]int) bool { return classes[pair[0]] == u && classes[pair[1]] == v }
			if slices.ContainsFunc(m.Rel, isPair) {
				out.Rel = append(out.Rel, [2]int{u, v})
			}
		}
	}
	return out
}

// isSameModel: nil and empty lists are the same.
func isSameModel(m, other api.Model) bool {
	return m.N == other.N && slices.Equal(m.Rel, other.Rel) && slices.EqualFunc(m.True, other.True, slices.Equal[[]string])
}

// column is the second reckoning of what is true, world by world, as chapter 9 says it.
func column(m api.Model, f api.Formula) []bool {
	var kids [][]bool
	for _, k := range f.Kids {
		kids = append(kids, column(m, k))
	}
	l := make([]bool, m.N)
	for w := range l {
		switch f.Kind {
		case api.FVar:
			l[w] = slices.Contains(m.True[w], f.Name)
		case api.FTrue, api.FBox:
			l[w] = true
		case api.FNot:
			l[w] = !kids[0][w]
		case api.FAnd:
			l[w] = kids[0][w] && kids[1][w]
		case api.FOr:
			l[w] = kids[0][w] || kids[1][w]
		case api.FThen:
			l[w] = !kids[0][w] || kids[1][w]
		}
	}
	for _, pair := range m.Rel {
		switch {
		case f.Kind == api.FBox && !kids[0][pair[1]]:
			l[pair[0]] = false
		case f.Kind == api.FDia && kids[0][pair[1]]:
			l[pair[0]] = true
		}
	}
	return l
}

func nodesIn(f api.Formula) int {
	n := 1
	for _, k := range f.Kids {
		n += nodesIn(k)
	}
	return n
}

// anyFormula has so many nodes.
func anyFormula(chance *rand.Rand, nodes int, names ...string) api.Formula {
	switch {
	case nodes == 1 && (len(names) == 0 || chance.Intn(8) == 0):
		return node(api.FTrue + chance.Intn(2))
	case nodes == 1:
		return name(names[chance.Intn(len(names))])
	case nodes == 2 || chance.Intn(2) == 0:
		kind := []int{api.FNot, api.FBox, api.FDia}[chance.Intn(3)]
		return node(kind, anyFormula(chance, nodes-1, names...))
	}
	first := 1 + chance.Intn(nodes-2)
	return node(api.FAnd+chance.Intn(3), anyFormula(chance, first, names...), anyFormula(chance, nodes-1-first, names...))
}

// The calls below hold what is answered against the second reckoning.

func classed(t *testing.T, m api.Model) []int {
	t.Helper()
	l, e := bisim.Classes(m)
	if want := classesOf(m); e != (api.Fault{}) || !slices.Equal(l, want) {
		t.Fatalf("%v: %v, %v, want %v", m, l, e, want)
	}
	return l
}

func shrunk(t *testing.T, m api.Model) api.Model {
	t.Helper()
	s, e := bisim.Shrink(m)
	if want := shrunkOf(m); e != (api.Fault{}) || !isSameModel(s, want) {
		t.Fatalf("%v: %v, %v, want %v", m, s, e, want)
	}
	if e := kripke.Check(s); e != (api.Fault{}) {
		t.Fatalf("%v: %v: Check says %v", m, s, e)
	}
	return s
}

// mostNodes is how large a formula may get that tells apart worlds of so many classes: see apart.
func mostNodes(classes int) int {
	return max(2, 1<<(classes-1)-1)
}

// told looks at what Tell answers; much tells that it was too large.
func told(t *testing.T, m api.Model, u, v int, isAlike bool) (f api.Formula, much bool) {
	t.Helper()
	f, e := bisim.Tell(m, u, v)
	switch {
	case isAlike:
		if e != fault(api.ErrNone, 0) || !reflect.DeepEqual(f, api.Formula{}) {
			t.Fatalf("%v: %d and %d are alike: %s, %v", m, u, v, text(f), e)
		}
		return f, false
	case e == fault(api.ErrMuch, 0) && m.N > 8:
		if !reflect.DeepEqual(f, api.Formula{}) {
			t.Fatalf("%v: %d and %d: %v beside a fault", m, u, v, f)
		}
		return f, true
	}
	if e != (api.Fault{}) || nodesIn(f) > api.MaxText || formula.Check(f) != (api.Fault{}) {
		t.Fatalf("%v: %d and %d: %s, %v, Check says %v", m, u, v, text(f), e, formula.Check(f))
	}
	worlds, e := modal.Eval(m, f)
	if e != (api.Fault{}) || !worlds[u] || worlds[v] || !slices.Equal(worlds, column(m, f)) {
		t.Fatalf("%v: %d and %d: %s: %v, %v", m, u, v, text(f), worlds, e)
	}
	return f, false
}

// toldAll asks Tell of all pairs of worlds; it answers how many nodes the largest formula has, and how many pairs were too much.
func toldAll(t *testing.T, m api.Model) (most, much int) {
	t.Helper()
	return toldSome(t, m, 1)
}

// toldSome asks it of every so many pairs alone.
func toldSome(t *testing.T, m api.Model, every int) (most, much int) {
	t.Helper()
	is := alike(m)
	for at := 0; at < m.N*m.N; at += every {
		u, v := at/m.N, at%m.N
		f, isMuch := told(t, m, u, v, is[u][v])
		if isMuch {
			much++
		}
		most = max(most, nodesIn(f))
	}
	if classes := 1 + slices.Max(classesOf(m)); most > mostNodes(classes) {
		t.Fatalf("%v: %d nodes, with %d classes", m, most, classes)
	}
	return most, much
}
