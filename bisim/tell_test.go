package bisim_test

import (
	"math/rand"
	"slices"
	"testing"

	"sequent/api"
)

// TestTellSmallest has pairs of which there is but one smallest formula, or few.
func TestTellSmallest(t *testing.T) {
	for _, c := range []struct {
		what string
		m    api.Model
		u, v int
		want []string
	}{
		{"the chapter's example", seeing("1", ""), 0, 1, []string{"<>1"}},
		{"the other way", seeing("1", ""), 1, 0, []string{"[]0"}},
		{"a name", having(seeing("", ""), "p", ""), 0, 1, []string{"p"}},
		{"no name", having(seeing("", ""), "p", ""), 1, 0, []string{"~p"}},
		{"another name", having(seeing("", ""), "pq", "pr"), 0, 1, []string{"q"}},
		{"fewer names", having(seeing("", ""), "pq", "pqr"), 0, 1, []string{"~r"}},
		{"a name ahead of what is seen", having(seeing("1", ""), "p", ""), 0, 1, []string{"p"}},
		{"two steps", line(3), 0, 1, []string{"<><>1"}},
		{"two steps, the other way", line(3), 1, 0, []string{"[][]0", "<>[]0"}},
		{"itself", seeing("0", "2", ""), 0, 1, []string{"<><>1", "[]<>1"}},
		{"a name that is seen", having(seeing("2", "3", "", ""), "", "", "p", ""), 0, 1, []string{"<>p", "[]p"}},
		{"a name that is not seen", having(seeing("2", "3", "", ""), "", "", "p", ""), 1, 0, []string{"<>~p", "[]~p"}},
		{"one more that is seen", having(seeing("23", "3", "", ""), "", "", "p", ""), 0, 1, []string{"<>p"}},
		{"one fewer that is seen", having(seeing("23", "3", "", ""), "", "", "p", ""), 1, 0, []string{"[]~p"}},
		{"two names at one", having(seeing("234", "34", "", "", ""), "", "", "pq", "p", "q"), 0, 1, []string{"<>(p & q)", "<>(q & p)"}},
		{"none of two names", having(seeing("34", "234", "", "", ""), "", "", "", "p", "q"), 0, 1, []string{"[](p | q)", "[](q | p)"}},
	} {
		f, much := told(t, c.m, c.u, c.v, false)
		if much || !slices.Contains(c.want, text(f)) {
			t.Errorf("%s: %s, want one of %q", c.what, text(f), c.want)
		}
	}
}

// definable tells apart worlds by formulas alone: it begins with the worlds that have a name, and takes in what FNot, FAnd and FDia make, until nothing is new.
func definable(m api.Model) [][]bool {
	all := [][]bool{make([]bool, m.N)}
	add := func(l []bool) {
		if !slices.ContainsFunc(all, func(other []bool) bool { return slices.Equal(l, other) }) {
			all = append(all, l)
		}
	}
	for _, name := range rising(slices.Concat(m.True...)) {
		l := make([]bool, m.N)
		for w := range l {
			l[w] = slices.Contains(m.True[w], name)
		}
		add(l)
	}
	for at := 0; at < len(all); at++ {
		not, dia := make([]bool, m.N), make([]bool, m.N)
		for w := range m.N {
			not[w] = !all[at][w]
		}
		for _, pair := range m.Rel {
			dia[pair[0]] = dia[pair[0]] || all[at][pair[1]]
		}
		add(not)
		add(dia)
		for _, other := range all[:at] {
			and := make([]bool, m.N)
			for w := range m.N {
				and[w] = all[at][w] && other[w]
			}
			add(and)
		}
	}
	return all
}

// TestHennessyMilner: there is a formula just where worlds are not alike; Tell answers one just there.
func TestHennessyMilner(t *testing.T) {
	chance := rand.New(rand.NewSource(7))
	look := func(m api.Model) {
		is, all := alike(m), definable(m)
		for u := range m.N {
			for v := range m.N {
				isTold := slices.ContainsFunc(all, func(l []bool) bool { return l[u] && !l[v] })
				if isTold == is[u][v] {
					t.Fatalf("%v: %d and %d: alike %v, told %v", m, u, v, is[u][v], isTold)
				}
				told(t, m, u, v, !isTold)
			}
		}
	}
	for m := range smallModels {
		look(m)
	}
	for range 3000 {
		look(someModel(chance, 5))
	}
}

func TestTellOfFourWorlds(t *testing.T) {
	for number := 0; number < 1<<16; number += 13 {
		toldAll(t, numbered(4, number))
	}
	chance := rand.New(rand.NewSource(8))
	for range 3000 {
		toldAll(t, numbered(4, chance.Intn(1<<20)))
	}
}

// TestTellByChance: with 8 worlds and fewer nothing is too much.
func TestTellByChance(t *testing.T) {
	chance := rand.New(rand.NewSource(9))
	for range 4000 {
		toldAll(t, someModel(chance, 8))
	}
	for range 2000 {
		toldAll(t, made(8, func(u, v int) bool { return chance.Intn(5) < 2 }))
	}
	for range 300 {
		if _, much := toldSome(t, someModel(chance, 16), 3); much > 0 {
			t.Errorf("%d are too much", much)
		}
	}
	for range 15 {
		if _, much := toldSome(t, anyModel(chance, api.MaxWorld, 1+4*chance.Float64(), "p"), 7); much > 0 {
			t.Errorf("%d are too much", much)
		}
	}
}

// hard are models of 8 worlds and fewer that are parted into one class more at each level, and whose worlds see many: they take large formulas.
func hard() []api.Model {
	return []api.Model{
		seeing("12345", "0145", "135", "1234", "1235", ""),
		seeing("2345", "012345", "345", "", "234", "245", "23456"),
		seeing("013456", "", "012456", "1234567", "0267", "14567", "01457", "15"),
	}
}

func TestHardModels(t *testing.T) {
	for i, m := range hard() {
		if l := classed(t, m); slices.Max(l) != m.N-1 {
			t.Errorf("%d: %v", i, l)
		}
		most, much := toldAll(t, m)
		if most < 20 || much > 0 {
			t.Errorf("%d: %d nodes, and %d are too much", i, most, much)
		}
	}
}

// TestModelsMadeHarder changes a pair at a time, and goes on from what takes the larger formula.
func TestModelsMadeHarder(t *testing.T) {
	chance := rand.New(rand.NewSource(10))
	for _, n := range []int{5, 6, 7, 8} {
		sees := make([]bool, n*n)
		for i := range sees {
			sees[i] = chance.Intn(3) == 0
		}
		most := 0
		for range 700 {
			at := chance.Intn(n * n)
			sees[at] = !sees[at]
			now, much := toldAll(t, made(n, func(u, v int) bool { return sees[u*n+v] }))
			if much > 0 {
				t.Fatalf("%v: %d are too much", sees, much)
			}
			if now < most {
				sees[at] = !sees[at]
			}
			most = max(most, now)
		}
		if most < 8 {
			t.Errorf("%d worlds: only %d nodes", n, most)
		}
	}
}

// tooHard has 40 worlds, some of which take very large formulas, and two copies of a line beside that are alike.
func tooHard() api.Model {
	m := made(30, func(u, v int) bool { return v < u-1 || v == u+1 })
	for w := range m.N {
		if w*w%6 < 2 {
			m.True[w] = []string{"p"}
		}
	}
	return beside(m, beside(line(5), line(5)))
}

// TestMuch: it is told of few, even there, and never of worlds that are alike.
func TestMuch(t *testing.T) {
	m := tooHard()
	_, much := toldAll(t, m)
	if much == 0 || much > 200 {
		t.Errorf("%d are too much", much)
	}
	for w := 30; w < 35; w++ {
		told(t, m, w, w+5, true)
		told(t, m, w+5, w, true)
	}
	for w := range m.N {
		told(t, m, w, w, true)
	}
}

// TestLongLines: a formula that goes through all worlds is answered.
func TestLongLines(t *testing.T) {
	for n := 2; n <= api.MaxWorld; n++ {
		m := line(n)
		f, _ := told(t, m, 0, 1, false)
		g, _ := told(t, m, 1, 0, false)
		if nodesIn(f) != n || nodesIn(g) != n {
			t.Errorf("%d worlds: %s, %s", n, text(f), text(g))
		}
	}
}

// TestTellCopies: a formula that tells apart two worlds tells apart those that are alike with them.
func TestTellCopies(t *testing.T) {
	chance := rand.New(rand.NewSource(11))
	for range 300 {
		m := someModel(chance, 8)
		both, is := beside(m, m), alike(m)
		for u := range m.N {
			for v := range m.N {
				f, _ := told(t, both, u, m.N+v, is[u][v])
				if worlds := column(both, f); !is[u][v] && (!worlds[m.N+u] || worlds[v]) {
					t.Fatalf("%v: %d and %d: %s", m, u, v, text(f))
				}
			}
		}
	}
}
