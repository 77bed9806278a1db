package modlog_test

import (
	"math/rand"
	"slices"
	"testing"

	"sequent/api"
	"sequent/kripke"
	"sequent/modal"
	"sequent/modlog"
)

// numbered is a model with n worlds: the number's n times n digits are what they see.
func numbered(n, number int) api.Model {
	m := api.Model{N: n, True: make([][]string, n)}
	for at := range n * n {
		if number>>at&1 == 1 {
			m.Rel = append(m.Rel, [2]int{at / n, at % n})
		}
	}
	return m
}

// orders are all orders of the numbers below n.
func orders(n int) [][]int {
	if n == 0 {
		return [][]int{nil}
	}
	var all [][]int
	for _, l := range orders(n - 1) {
		for at := range n {
			all = append(all, slices.Insert(slices.Clone(l), at, n-1))
		}
	}
	return all
}

// isFirst: is there no lower number of a model in which the worlds see the same, in another order?
func isFirst(n, number int, orders [][]int) bool {
	return !slices.ContainsFunc(orders, func(order []int) bool {
		other := 0
		for at := range n * n {
			if number>>at&1 == 1 {
				other |= 1 << (order[at/n]*n + order[at%n])
			}
		}
		return other < number
	})
}

// smallModels are those of the logic with so many worlds at most, without what is true at them: one of each that are the same in another order.
func smallModels(t *testing.T, logic, most int) []api.Model {
	t.Helper()
	var all []api.Model
	for n := 1; n <= most; n++ {
		orders := orders(n)
		for number := range 1 << (n * n) {
			m := numbered(n, number)
			shape, e := modal.Shape(m)
			if e != (api.Fault{}) {
				t.Fatalf("%v: %v", m, e)
			}
			if isOf(logic, shape) && isFirst(n, number, orders) {
				all = append(all, m)
			}
		}
	}
	return all
}

// TestTrueInSmallModels: what is valid is true in all models of the logic that are small, whatever is true at their worlds.
func TestTrueInSmallModels(t *testing.T) {
	for logic := K; logic <= GL; logic++ {
		for most, formulas := range map[int][]api.Formula{2: modalUpTo(4, "p", "q"), 3: modalUpTo(5, "p"), 4: modalUpTo(4, "p")} {
			models := smallModels(t, logic, most)
			count := 0
			for _, f := range formulas {
				if !asked(t, logic, f) {
					continue
				}
				count++
				for _, m := range models {
					if is, e := modal.Holds(m, f); !is || e != (api.Fault{}) {
						t.Fatalf("%s: %s is valid, and in %v: %v, %v", logics[logic], text(f), m, is, e)
					}
				}
			}
			if count < 50 || len(models) < 3 {
				t.Errorf("%s: %d formulas, %d models", logics[logic], count, len(models))
			}
		}
	}
}

// anyModelOf is one of the logic, with pairs and names by chance, and what the logic asks for beside them.
func anyModelOf(chance *rand.Rand, logic, n int, names ...string) api.Model {
	m := api.Model{N: n, True: make([][]string, n)}
	for range chance.Intn(2 * n) {
		pair := [2]int{chance.Intn(n), chance.Intn(n)}
		if logic == GL && pair[0] >= pair[1] {
			continue
		}
		m.Rel = append(m.Rel, pair)
	}
	for w := range n {
		if logic == T || logic == S4 || logic == S5 || logic == B {
			m.Rel = append(m.Rel, [2]int{w, w})
		}
		if logic == D {
			m.Rel = append(m.Rel, [2]int{w, chance.Intn(n)})
		}
		for _, s := range names {
			if chance.Intn(2) == 0 {
				m.True[w] = append(m.True[w], s)
			}
		}
	}
	if logic == S5 || logic == B {
		for _, pair := range m.Rel {
			m.Rel = append(m.Rel, [2]int{pair[1], pair[0]})
		}
	}
	if logic == K4 || logic == S4 || logic == S5 || logic == GL {
		m.Rel = closed(n, m.Rel)
	}
	return m
}

// closed are the pairs with those that are seen by way of others.
func closed(n int, rel [][2]int) [][2]int {
	seen := make([]bool, n*n)
	for _, pair := range rel {
		seen[pair[0]*n+pair[1]] = true
	}
	for by := range n {
		for u := range n {
			for v := range n {
				seen[u*n+v] = seen[u*n+v] || seen[u*n+by] && seen[by*n+v]
			}
		}
	}
	var all [][2]int
	for at, is := range seen {
		if is {
			all = append(all, [2]int{at / n, at % n})
		}
	}
	return all
}

// TestTrueInModelsByChance: what is valid is true at all worlds of larger models of the logic, too.
func TestTrueInModelsByChance(t *testing.T) {
	chance := rand.New(rand.NewSource(4))
	count := 0
	for range 3000 {
		f := anyModal(chance, api.MaxSubs, "p", "q")
		for logic := K; logic <= GL; logic++ {
			if !asked(t, logic, f) {
				continue
			}
			count++
			for range 5 {
				m := anyModelOf(chance, logic, 4+chance.Intn(8), "p", "q")
				if shape, e := modal.Shape(m); e != (api.Fault{}) || !isOf(logic, shape) {
					t.Fatalf("%v is none of %s: %v", m, logics[logic], e)
				}
				if l, e := modal.Eval(m, f); e != (api.Fault{}) || slices.Contains(l, false) {
					t.Fatalf("%s: %s is valid, and in %v: %v, %v", logics[logic], text(f), m, l, e)
				}
			}
		}
	}
	if count < 2000 {
		t.Errorf("only %d are valid", count)
	}
}

// atOnce is f with FBox of g and g for FBox of g, and likewise FDia.
func atOnce(f api.Formula) api.Formula {
	g := api.Formula{Kind: f.Kind, Name: f.Name}
	for _, k := range f.Kids {
		g.Kids = append(g.Kids, atOnce(k))
	}
	switch f.Kind {
	case api.FBox:
		return node(api.FAnd, g.Kids[0], g)
	case api.FDia:
		return node(api.FOr, g.Kids[0], g)
	}
	return g
}

// TestWorldsThatSeeThemselves: what is valid where each world sees itself is what is valid of f with FBox that speaks of the world itself, too, where they need not.
func TestWorldsThatSeeThemselves(t *testing.T) {
	chance := rand.New(rand.NewSource(5))
	count := 0
	for range 20000 {
		f := anyModal(chance, 7, "p", "q")
		g := atOnce(f)
		if nodesIn(g) > api.MaxNodes || partsIn(g) > api.MaxSubs || partsIn(g) == partsIn(f) {
			continue
		}
		for one, other := range map[int]int{T: K, S4: K4} {
			is := asked(t, one, f)
			if is != asked(t, other, g) || is != asked(t, one, g) {
				t.Fatalf("%s in %s: %v, %s in %s is not so", text(f), logics[one], is, text(g), logics[other])
			}
			if is {
				count++
			}
		}
	}
	if count < 500 {
		t.Errorf("only %d are valid", count)
	}
}

// TestModelsStaySmall: of these formulas there are models against them with very many worlds; one is answered that the layers above take, so that it can be looked at.
func TestModelsStaySmall(t *testing.T) {
	for _, s := range []string{"~<>[][]([][]<>p | q)", "<>(<>[][][][]<>q -> <>q)", "[][]~[]q -> []<>[][][]q", "[][][][][]<>(<>p & 1)", "[][][][][][][][]0", "<>[]<>[]<>[]<>[]<>p"} {
		for logic := K; logic <= GL; logic++ {
			valid, m, _ := modlog.Decide(logic, read(t, s))
			if e := kripke.Check(m); !valid && e != (api.Fault{}) {
				t.Errorf("%s: %s: %d worlds, %d pairs: %v", logics[logic], s, m.N, len(m.Rel), e)
			}
		}
	}
}
