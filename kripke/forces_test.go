package kripke_test

import (
	"fmt"
	"math/rand"
	"slices"
	"testing"

	"sequent/api"
	"sequent/kripke"
)

// chain has n worlds in a row, each of which sees those behind it, too; p is true from the world first on.
func chain(n, first int) api.Model {
	m := api.Model{N: n, True: make([][]string, n)}
	for u := range n {
		for v := u; v < n; v++ {
			m.Rel = append(m.Rel, [2]int{u, v})
		}
		if u >= first {
			m.True[u] = []string{"p"}
		}
	}
	return m
}

// fork: world 0 sees two others, with p and with q.
func fork() api.Model {
	return api.Model{N: 3, Rel: [][2]int{{0, 0}, {0, 1}, {1, 1}, {0, 2}, {2, 2}}, True: [][]string{nil, {"p"}, {"q"}}}
}

func TestForcing(t *testing.T) {
	for _, c := range []struct {
		m    api.Model
		f    string
		want []bool
	}{
		{chain(2, 1), "p", []bool{false, true}},
		{chain(2, 1), "q", []bool{false, false}},
		{chain(2, 1), "1", []bool{true, true}},
		{chain(2, 1), "0", []bool{false, false}},
		{chain(2, 1), "p | ~p", []bool{false, true}},
		{chain(2, 1), "~p", []bool{false, false}},
		{chain(2, 1), "~~p", []bool{true, true}},
		{chain(2, 1), "~~p -> p", []bool{false, true}},
		{chain(2, 1), "~q", []bool{true, true}},
		{chain(2, 1), "p -> q", []bool{false, false}},
		{chain(2, 1), "q -> p", []bool{true, true}},
		{chain(3, 1), "~p | ~~p", []bool{true, true, true}},
		{chain(2, 1), "((p -> q) -> p) -> p", []bool{false, true}},
		{chain(1, 0), "p | ~p", []bool{true}},
		{fork(), "p | q", []bool{false, true, true}},
		{fork(), "p & q", []bool{false, false, false}},
		{fork(), "p & 1", []bool{false, true, false}},
		{fork(), "~p | ~~p", []bool{false, true, true}},
		{fork(), "(p -> q) | (q -> p)", []bool{false, true, true}},
		{fork(), "~(p & q)", []bool{true, true, true}},
		{fork(), "~~(p | q)", []bool{true, true, true}},
		{fork(), "p -> p & q", []bool{false, false, true}},
		{fork(), "1 -> p", []bool{false, true, false}},
		{fork(), "0 -> p", []bool{true, true, true}},
		{fork(), "p -> 0", []bool{false, false, true}},
	} {
		l, e := kripke.Forces(c.m, read(t, c.f))
		if e != (api.Fault{}) || !slices.Equal(l, c.want) {
			t.Errorf("%s: %v, %v, want %v", c.f, l, e, c.want)
		}
	}
}

// TestWorldsThatSeeEachOther: growing has no order in which what is later is not ahead.
func TestWorldsThatSeeEachOther(t *testing.T) {
	m := api.Model{N: 2, Rel: [][2]int{{0, 0}, {0, 1}, {1, 0}, {1, 1}}, True: [][]string{{"p"}, {"p"}}}
	if l, e := kripke.Forces(m, read(t, "p & (q | ~q)")); e != (api.Fault{}) || !slices.Equal(l, []bool{true, true}) {
		t.Errorf("%v, %v", l, e)
	}
	m.True[1] = nil
	refusedForcing(t, "one of two lacks a name", m, name("p"), fault(api.ErrForm, 0))
	m.True = [][]string{nil, {"p"}}
	refusedForcing(t, "the other lacks it", m, name("p"), fault(api.ErrForm, 1))
}

// TestRepeatedPairsAndNames: how often they are there does not matter, nor in which order.
func TestRepeatedPairsAndNames(t *testing.T) {
	m, f := fork(), read(t, "(p -> q) | ~~(p | ~q)")
	want, _ := kripke.Forces(m, f)
	m.Rel = append(slices.Repeat(m.Rel, 3), [2]int{0, 2}, [2]int{0, 0})
	slices.Reverse(m.Rel)
	m.True = [][]string{{}, {"p", "p", "p"}, {"q", "q"}}
	if l, e := kripke.Forces(m, f); e != (api.Fault{}) || !slices.Equal(l, want) {
		t.Errorf("%v, %v, want %v", l, e, want)
	}
	full := with(model(1), func(m *api.Model) { m.Rel = slices.Repeat(m.Rel, 2000) })
	if l, e := kripke.Forces(full, f); e != (api.Fault{}) || !slices.Equal(l, []bool{true}) {
		t.Errorf("%v, %v", l, e)
	}
}

func TestUngrown(t *testing.T) {
	p := name("p")
	without := func(m api.Model, pair [2]int) api.Model {
		return with(m, func(m *api.Model) {
			m.Rel = slices.DeleteFunc(m.Rel, func(other [2]int) bool { return other == pair })
		})
	}
	for w := range 4 {
		refusedForcing(t, "does not see itself", without(chain(4, 2), [2]int{w, w}), p, fault(api.ErrForm, w))
	}
	refusedForcing(t, "does not see what one sees", without(chain(4, 2), [2]int{0, 2}), p, fault(api.ErrForm, 0))
	refusedForcing(t, "does not see what one sees", without(chain(4, 2), [2]int{1, 3}), p, fault(api.ErrForm, 1))
	refusedForcing(t, "sees too little", without(without(chain(4, 2), [2]int{1, 3}), [2]int{2, 2}), p, fault(api.ErrForm, 1))
	for lost := 1; lost < 4; lost++ {
		m := with(chain(4, 0), func(m *api.Model) { m.True[lost] = []string{"q"} })
		refusedForcing(t, "lacks a name", m, p, fault(api.ErrForm, 0))
		m = with(chain(4, lost-1), func(m *api.Model) { m.True[lost] = nil })
		refusedForcing(t, "lacks a name", m, p, fault(api.ErrForm, lost-1))
	}
	some := with(chain(2, 0), func(m *api.Model) { m.True = [][]string{{"p", "q", "r"}, {"q", "p", "s"}} })
	refusedForcing(t, "lacks the last name", some, p, fault(api.ErrForm, 0))
	refusedForcing(t, "no pairs", api.Model{N: 2, True: make([][]string, 2)}, p, fault(api.ErrForm, 0))
	back := with(model(40), func(m *api.Model) { m.Rel = append(m.Rel, [2]int{39, 38}, [2]int{38, 37}) })
	refusedForcing(t, "the last world", back, p, fault(api.ErrForm, 39))
}

// TestForcesOrder: the model's faults are told ahead of the formula's.
func TestForcesOrder(t *testing.T) {
	p := name("p")
	for _, c := range []struct {
		f    api.Formula
		want api.Fault
	}{
		{api.Formula{}, fault(api.ErrKind, 0)},
		{node(api.FBox, p), fault(api.ErrKind, 0)},
		{node(api.FAnd, p, node(api.FNot, node(api.FDia, p))), fault(api.ErrKind, 3)},
		{node(api.FOr, node(api.FBox, p), name("P")), fault(api.ErrName, 3)},
		{node(api.FThen, p, node(api.FNot)), fault(api.ErrSize, 2)},
		{node(api.FAnd, p), fault(api.ErrSize, 0)},
		{name("abcdefghi"), fault(api.ErrName, 0)},
		{nots(api.MaxNodes, p), fault(api.ErrMany, 0)},
		{endless(), fault(api.ErrMany, 0)},
	} {
		refusedForcing(t, "a formula that is not plain", fork(), c.f, c.want)
		ungrown := with(fork(), func(m *api.Model) { m.Rel = m.Rel[:4] })
		refusedForcing(t, "it does not grow", ungrown, c.f, fault(api.ErrForm, 2))
		none := with(ungrown, func(m *api.Model) { m.True[1] = []string{"P"} })
		refusedForcing(t, "no name, and it does not grow", none, c.f, fault(api.ErrName, 1))
	}
}

// endless holds itself.
func endless() api.Formula {
	kids := make([]api.Formula, 1)
	kids[0] = node(api.FNot, kids...)
	kids[0].Kids = kids
	return kids[0]
}

// anyModel has pairs and names by chance; where it is to grow, what is missing for that is added.
func anyModel(chance *rand.Rand, n int, grows bool) api.Model {
	m := api.Model{N: n, True: make([][]string, n)}
	for range chance.Intn(2*n + 1) {
		m.Rel = append(m.Rel, [2]int{chance.Intn(n), chance.Intn(n)})
	}
	for range chance.Intn(n + 1) {
		w := chance.Intn(n)
		m.True[w] = append(m.True[w], string(rune('a'+chance.Intn(3))))
	}
	if chance.Intn(4) > 0 {
		for w := range n {
			m.Rel = append(m.Rel, [2]int{w, w})
		}
	}
	for grows && ungrown(m) >= 0 {
		for w := range n {
			m.Rel = append(m.Rel, [2]int{w, w})
			for _, v := range seen(m, w) {
				for _, u := range seen(m, v) {
					m.Rel = append(m.Rel, [2]int{w, u})
				}
				m.True[v] = append(m.True[v], m.True[w]...)
				slices.Sort(m.True[v])
				m.True[v] = slices.Compact(m.True[v])
			}
		}
		m.Rel = distinct(m.Rel)
	}
	return m
}

func distinct(pairs [][2]int) [][2]int {
	slices.SortFunc(pairs, func(a, b [2]int) int { return 100*(a[0]-b[0]) + a[1] - b[1] })
	return slices.Compact(pairs)
}

// anyFormula has so many nodes, and names of so many.
func anyFormula(chance *rand.Rand, nodes, names int) api.Formula {
	switch {
	case nodes == 1 && chance.Intn(8) == 0:
		return node(api.FTrue + chance.Intn(2))
	case nodes == 1:
		return name(string(rune('a' + chance.Intn(names))))
	case nodes == 2 || chance.Intn(5) == 0:
		return node(api.FNot, anyFormula(chance, nodes-1, names))
	}
	first := 1 + chance.Intn(nodes-2)
	return node(api.FAnd+chance.Intn(3), anyFormula(chance, first, names), anyFormula(chance, nodes-1-first, names))
}

// TestAnyModels holds Forces against the second reckoning, and looks that what is forced stays so.
func TestAnyModels(t *testing.T) {
	chance := rand.New(rand.NewSource(1))
	for range 4000 {
		m := anyModel(chance, 1+chance.Intn(6), true)
		f := anyFormula(chance, 1+chance.Intn(12), 4)
		l, e := kripke.Forces(m, f)
		if e != (api.Fault{}) || len(l) != m.N {
			t.Fatalf("%v: %v, %v", m, l, e)
		}
		see := seenOf(m)
		for w := range m.N {
			if l[w] != forces(m, see, w, f) {
				t.Fatalf("%v, %s: %v at %d", m, text(f), l[w], w)
			}
			for _, v := range see[w] {
				if l[w] && !l[v] {
					t.Fatalf("%v, %s: forced at %d and not at %d", m, text(f), w, v)
				}
			}
		}
	}
}

// TestAnyUngrown holds the fault against the second reckoning.
func TestAnyUngrown(t *testing.T) {
	chance := rand.New(rand.NewSource(2))
	count := map[string]int{}
	for range 20000 {
		m := anyModel(chance, 1+chance.Intn(4), false)
		want := api.Fault{}
		if at := ungrown(m); at >= 0 {
			want = fault(api.ErrForm, at)
		}
		if _, e := kripke.Forces(m, name("a")); e != want {
			t.Fatalf("%v: %v, want %v", m, e, want)
		}
		count[fmt.Sprint(want)]++
	}
	if len(count) != 5 {
		t.Errorf("not all faults have come: %v", count)
	}
}

// TestGreatModels have as many worlds and nodes as there may be.
func TestGreatModels(t *testing.T) {
	m := chain(40, 20)
	for f, want := range map[string]func(w int) bool{
		"p":      func(w int) bool { return w >= 20 },
		"~p":     func(int) bool { return false },
		"~~p":    func(int) bool { return true },
		"p | ~p": func(w int) bool { return w >= 20 },
		"1":      func(int) bool { return true },
	} {
		l, e := kripke.Forces(m, read(t, f))
		if e != (api.Fault{}) || len(l) != 40 {
			t.Fatalf("%s: %v, %v", f, l, e)
		}
		for w := range l {
			if l[w] != want(w) {
				t.Errorf("%s: %v at %d", f, l[w], w)
			}
		}
	}
	if l, e := kripke.Forces(m, nots(199, name("p"))); e != (api.Fault{}) || slices.Contains(l, true) {
		t.Errorf("an odd number of nots: %v, %v", l, e)
	}
	if l, e := kripke.Forces(m, nots(198, name("p"))); e != (api.Fault{}) || slices.Contains(l, false) {
		t.Errorf("an even number of nots: %v, %v", l, e)
	}
}
