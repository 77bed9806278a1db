package modal_test

import (
	"math/rand"
	"slices"
	"testing"

	"sequent/api"
	"sequent/formula"
	"sequent/kripke"
	"sequent/modal"
)

// worlds tells in digits where f is true: 101 at the worlds 0 and 2.
func worlds(l []bool) string {
	text := ""
	for _, is := range l {
		if is {
			text += "1"
		} else {
			text += "0"
		}
	}
	return text
}

// odd has a world that sees itself, one that sees others, one that sees none, and one that sees all; it is neither reflexive nor transitive, and True does not grow.
func odd() api.Model {
	return having(seeing("01", "23", "", "0123"), "p", "q", "pq", "")
}

func TestEval(t *testing.T) {
	for _, c := range []struct{ f, want string }{
		{"p", "1010"},
		{"q", "0110"},
		{"r", "0000"},
		{"1", "1111"},
		{"0", "0000"},
		{"~p", "0101"},
		{"~r", "1111"},
		{"p & q", "0010"},
		{"p | q", "1110"},
		{"p -> q", "0111"},
		{"q -> p", "1011"},
		{"r -> 0", "1111"},
		{"p -> r", "0101"},
		{"[]p", "0010"},
		{"[]q", "0010"},
		{"[](p | q)", "1010"},
		{"[]~r", "1111"},
		{"[]r", "0010"},
		{"[]1", "1111"},
		{"[]0", "0010"},
		{"<>p", "1101"},
		{"<>q", "1101"},
		{"<>r", "0000"},
		{"<>1", "1101"},
		{"<>0", "0000"},
		{"<>(p & q)", "0101"},
		{"<>[]0", "0101"},
		{"[]<>1", "1010"},
		{"[][]p", "0010"},
		{"<><>p", "1101"},
		{"[]p -> p", "1111"},
		{"p -> []<>p", "1111"},
		{"[]~<>p", "0010"},
		{"<>([]p & q)", "0101"},
	} {
		if l := evaluated(t, odd(), read(t, c.f)); worlds(l) != c.want {
			t.Errorf("%s: %s, want %s", c.f, worlds(l), c.want)
		}
	}
}

// TestNothingSeen: FBox of anything is true at a world that sees nothing, and FDia of nothing.
func TestNothingSeen(t *testing.T) {
	for _, m := range []api.Model{seeing(""), having(seeing("", "1", "0"), "p"), having(seeing("", "01"), "p", "p")} {
		for _, f := range formulasUpTo(3, "p", "q") {
			if !evaluated(t, m, node(api.FBox, f))[0] || evaluated(t, m, node(api.FDia, f))[0] {
				t.Errorf("%v: %s at a world that sees nothing", m, text(f))
			}
		}
	}
}

// TestSmallModels goes through all models with few worlds, and all small formulas.
func TestSmallModels(t *testing.T) {
	for n, most := range map[int]int{1: 5, 2: 5, 3: 4} {
		all := formulasUpTo(most, "p")
		for m := range frames(n) {
			for m.True = range trues(n, []string{"p"}) {
				for _, f := range all {
					evaluated(t, m, f)
				}
			}
		}
	}
}

func TestAnyModels(t *testing.T) {
	chance := rand.New(rand.NewSource(1))
	for range 20000 {
		n := 1 + chance.Intn(8)
		if chance.Intn(20) == 0 {
			n = 33 + chance.Intn(8)
		}
		m := anyModel(chance, n, "p", "q", "letters", "pp")
		evaluated(t, m, anyFormula(chance, 1+chance.Intn(30), "p", "q", "letters", "pp", "none"))
	}
}

// TestTwins: FDia is what FBox is between two FNot, and the other way round.
func TestTwins(t *testing.T) {
	chance := rand.New(rand.NewSource(2))
	for range 3000 {
		m := anyModel(chance, 1+chance.Intn(6), "p", "q")
		f := anyFormula(chance, 1+chance.Intn(8), "p", "q")
		no := node(api.FNot, f)
		for one, other := range map[int]int{api.FBox: api.FDia, api.FDia: api.FBox} {
			l, e := modal.Eval(m, node(one, f))
			k, d := modal.Eval(m, node(api.FNot, node(other, no)))
			if e != (api.Fault{}) || d != (api.Fault{}) || !slices.Equal(l, k) {
				t.Fatalf("%v, %s: %v and %v", m, text(f), l, k)
			}
		}
	}
}

// TestRepeatedPairsAndNames: how often they are there does not matter, nor in which order.
func TestRepeatedPairsAndNames(t *testing.T) {
	m := odd()
	twice := api.Model{N: m.N, Rel: slices.Concat(m.Rel, m.Rel, m.Rel[:3])}
	slices.Reverse(twice.Rel)
	for _, names := range m.True {
		l := slices.Concat(names, []string{"z"}, names)
		slices.Reverse(l)
		twice.True = append(twice.True, l)
	}
	for _, f := range formulasUpTo(3, "p", "q") {
		if l, k := evaluated(t, m, f), evaluated(t, twice, f); !slices.Equal(l, k) {
			t.Errorf("%s: %v, %v", text(f), l, k)
		}
	}
	if shaped(t, m) != shaped(t, twice) {
		t.Error("another shape")
	}
}

// TestLongestNames: names that begin alike are not the same.
func TestLongestNames(t *testing.T) {
	m := api.Model{N: 2, Rel: [][2]int{{0, 1}}, True: [][]string{{"abcdefgh"}, {"abcdefg", "a"}}}
	for f, want := range map[string]string{"abcdefgh": "10", "abcdefg": "01", "a": "01", "ab": "00", "<>abcdefg": "10", "<>abcdefgh": "00"} {
		if l := evaluated(t, m, read(t, f)); worlds(l) != want {
			t.Errorf("%s: %s", f, worlds(l))
		}
	}
}

// ring has n worlds, each of which sees the next one; p is true at the last.
func ring(n int) api.Model {
	m := api.Model{N: n, True: make([][]string, n)}
	for w := range n {
		m.Rel = append(m.Rel, [2]int{w, (w + 1) % n})
	}
	m.True[n-1] = []string{"p"}
	return m
}

// TestGreatModels have as many worlds, pairs, names and nodes as there may be.
func TestGreatModels(t *testing.T) {
	for _, n := range []int{1, 39, 40} {
		for _, kind := range []int{api.FBox, api.FDia} {
			for _, far := range []int{0, 1, 38, 39, 40, 199} {
				l := evaluated(t, ring(n), below(kind, far, name("p")))
				for w, is := range l {
					if want := (w+far)%n == n-1; is != want {
						t.Errorf("%d worlds, %d far: %v at %d", n, far, is, w)
					}
				}
			}
		}
	}
	full := ring(40)
	for at := len(full.Rel); at < 2000; at++ {
		full.Rel = append(full.Rel, [2]int{at % 40, at / 40 % 40})
	}
	for w := range full.True {
		for _, f := range letters(26) {
			full.True[w] = append(full.True[w], f.Name)
		}
		full.True[w] = append(full.True[w], "aa", "bb", "cc", "dd")
	}
	full.True[39] = full.True[39][1:]
	if l := evaluated(t, full, read(t, "[]a | <>~a & p & dd")); worlds(l) != "1111111111111111111111111111111111111111" {
		t.Errorf("all see all: %v", l)
	}
	wide := joined(api.FAnd, slices.Repeat([]api.Formula{name("p")}, 100)...)
	if l := evaluated(t, ring(40), wide); slices.Index(l, true) != 39 {
		t.Errorf("199 nodes: %v", l)
	}
}

// boxed is what a world forces, as what is true there: with FBox around names, FNot and FThen.
func boxed(f api.Formula) api.Formula {
	g := api.Formula{Kind: f.Kind, Name: f.Name}
	for _, k := range f.Kids {
		g.Kids = append(g.Kids, boxed(k))
	}
	if f.Kind == api.FVar || f.Kind == api.FNot || f.Kind == api.FThen {
		return node(api.FBox, g)
	}
	return g
}

// TestWhatIsForced: in models that grow both layers say the same.
func TestWhatIsForced(t *testing.T) {
	plain := slices.DeleteFunc(formulasUpTo(4, "p"), func(f api.Formula) bool {
		parts, _ := formula.Parts(f)
		return slices.ContainsFunc(parts, func(g api.Formula) bool { return g.Kind == api.FBox || g.Kind == api.FDia })
	})
	compared := 0
	for m := range frames(3) {
		for m.True = range trues(3, []string{"p"}) {
			for _, f := range plain {
				forced, e := kripke.Forces(m, f)
				if e != (api.Fault{}) {
					break
				}
				compared++
				if l := evaluated(t, m, boxed(f)); !slices.Equal(l, forced) {
					t.Fatalf("%v: %s is forced %v, and true %v", m, text(f), forced, l)
				}
			}
		}
	}
	if compared < 10000 {
		t.Errorf("%d compared", compared)
	}
}
