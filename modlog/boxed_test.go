package modlog_test

import (
	"math/rand"
	"reflect"
	"testing"

	"sequent/api"
	"sequent/formula"
	"sequent/kripke"
	"sequent/modlog"
	"sequent/truth"
)

// isToBox: is FBox put around this kind?
func isToBox(kind int) bool {
	return kind == api.FVar || kind == api.FNot || kind == api.FThen
}

// isBoxed goes through both side by side: wherever f has one that is to have FBox around it, g has just one FBox there, and else the same node.
func isBoxed(f, g api.Formula) bool {
	if isToBox(f.Kind) {
		if g.Kind != api.FBox || g.Name != "" || len(g.Kids) != 1 {
			return false
		}
		g = g.Kids[0]
	}
	if g.Kind != f.Kind || g.Name != f.Name || len(g.Kids) != len(f.Kids) {
		return false
	}
	for i := range f.Kids {
		if !isBoxed(f.Kids[i], g.Kids[i]) {
			return false
		}
	}
	return true
}

// boxed asks Boxed, and looks at what it answers.
func boxed(t *testing.T, f api.Formula) api.Formula {
	t.Helper()
	g, e := modlog.Boxed(f)
	if e != (api.Fault{}) || !isBoxed(f, g) || formula.Check(g) != (api.Fault{}) {
		t.Fatalf("%s: %s, %v", text(f), text(g), e)
	}
	return g
}

func TestBoxed(t *testing.T) {
	for s, want := range map[string]string{
		"p":                      "[]p",
		"1":                      "1",
		"0":                      "0",
		"~p":                     "[]~[]p",
		"~1":                     "[]~1",
		"~~p":                    "[]~[]~[]p",
		"p & q":                  "[]p & []q",
		"p | q":                  "[]p | []q",
		"p -> q":                 "[]([]p -> []q)",
		"1 -> 0":                 "[](1 -> 0)",
		"1 & 0 | 1":              "1 & 0 | 1",
		"p & (q | 1) & 0":        "[]p & ([]q | 1) & 0",
		"p -> ~q | 0":            "[]([]p -> []~[]q | 0)",
		"p -> q -> p":            "[]([]p -> []([]q -> []p))",
		"(p -> q) -> p":          "[]([]([]p -> []q) -> []p)",
		"~(p & ~letters)":        "[]~([]p & []~[]letters)",
		"(p -> p) & ~(p | p)":    "[]([]p -> []p) & []~([]p | []p)",
		"((p -> q) -> p) -> p":   "[]([]([]([]p -> []q) -> []p) -> []p)",
		"abcdefgh | ~~~abcdefgh": "[]abcdefgh | []~[]~[]~[]abcdefgh",
	} {
		if g := text(boxed(t, read(t, s))); g != want {
			t.Errorf("%s: %s, want %s", s, g, want)
		}
	}
}

func TestBoxedOfAll(t *testing.T) {
	for _, f := range plainUpTo(5, "p", "q") {
		boxed(t, f)
	}
	chance := rand.New(rand.NewSource(6))
	for range 3000 {
		boxed(t, anyFormula(chance, 1+chance.Intn(100), []int{api.FNot}, "p", "q", "letters"))
	}
}

// notBoxed looks that Boxed tells just this fault.
func notBoxed(t *testing.T, what string, f api.Formula, want api.Fault) {
	t.Helper()
	if g, e := modlog.Boxed(f); e != want || !reflect.DeepEqual(g, api.Formula{}) {
		t.Errorf("%s: %v, %v, want %v", what, g, e, want)
	}
}

func TestBoxedFaults(t *testing.T) {
	p := name("p")
	for _, c := range badFormulas() {
		notBoxed(t, c.what, c.f, c.want)
	}
	for _, kind := range []int{api.FBox, api.FDia} {
		notBoxed(t, "not plain", node(kind, p), fault(api.ErrKind, 0))
		notBoxed(t, "not plain below", node(api.FThen, node(api.FNot, p), node(kind, p)), fault(api.ErrKind, 3))
		notBoxed(t, "not plain twice", node(api.FAnd, node(kind, p), node(api.FBox, p)), fault(api.ErrKind, 1))
		notBoxed(t, "no name behind it", node(api.FAnd, node(kind, p), name("P")), fault(api.ErrName, 3))
		notBoxed(t, "too many behind it", node(api.FAnd, node(kind, p), below(api.FNot, api.MaxNodes, p)), fault(api.ErrMany, 0))
		notBoxed(t, "too large, were it plain", below(api.FNot, 150, node(kind, p)), fault(api.ErrKind, 150))
		notBoxed(t, "in itself without end", endless(kind), fault(api.ErrMany, 0))
	}
}

// TestBoxedIsTooLarge: just MaxNodes nodes may come out.
func TestBoxedIsTooLarge(t *testing.T) {
	p, yes := name("p"), node(api.FTrue)
	wide := func(names, trues int) api.Formula {
		var l []api.Formula
		for range names {
			l = append(l, p)
		}
		for range trues {
			l = append(l, yes)
		}
		return joined(api.FOr, l...)
	}
	for _, c := range []struct {
		f    api.Formula
		want int
	}{
		{below(api.FNot, 98, p), 198},
		{below(api.FNot, 99, p), 200},
		{below(api.FNot, 100, p), 202},
		{below(api.FNot, 199, p), 400},
		{below(api.FNot, 99, yes), 199},
		{below(api.FNot, 100, yes), 201},
		{wide(0, 100), 199},
		{wide(1, 99), 200},
		{wide(2, 98), 201},
		{wide(100, 0), 299},
		{wide(66, 1), 199},
		{wide(67, 0), 200},
		{wide(67, 1), 202},
		{node(api.FNot, wide(0, 99)), 199},
		{node(api.FNot, wide(1, 98)), 200},
		{node(api.FNot, wide(2, 97)), 201},
		{node(api.FThen, wide(0, 50), wide(0, 50)), 200},
		{node(api.FThen, wide(0, 50), wide(1, 49)), 201},
		{node(api.FAnd, wide(1, 49), wide(0, 50)), 200},
		{node(api.FAnd, wide(1, 49), wide(1, 49)), 201},
	} {
		if c.want > api.MaxNodes {
			notBoxed(t, text(c.f), c.f, fault(api.ErrMuch, 0))
		} else if n := nodesIn(boxed(t, c.f)); n != c.want {
			t.Errorf("%s: %d nodes, want %d", text(c.f), n, c.want)
		}
	}
}

// isIntuitionistic asks layer 5.
func isIntuitionistic(t *testing.T, f api.Formula) bool {
	t.Helper()
	_, _, valid, e := kripke.Prove(api.Sequent{Right: []api.Formula{f}})
	if e != (api.Fault{}) {
		t.Fatalf("%s: %v", text(f), e)
	}
	return valid
}

// TestGoedelMcKinseyTarski: f is intuitionistically valid just if Boxed of f is valid in S4.
func TestGoedelMcKinseyTarski(t *testing.T) {
	count := map[bool]int{}
	look := func(f api.Formula) {
		g := boxed(t, f)
		if partsIn(g) > api.MaxSubs {
			return
		}
		is := isIntuitionistic(t, f)
		if asked(t, S4, g) != is {
			t.Fatalf("%s: %v, and %s in S4 is not so", text(f), is, text(g))
		}
		// Where all worlds see each other, what has FBox around it is as in one row.
		if row, _, _ := truth.Valid(f); asked(t, S5, g) != row {
			t.Fatalf("%s: %v in all rows, and %s in S5 is not so", text(f), row, text(g))
		}
		count[is]++
	}
	for _, f := range plainUpTo(5, "p", "q") {
		look(f)
	}
	chance := rand.New(rand.NewSource(7))
	for range 20000 {
		look(anyFormula(chance, 5+chance.Intn(8), []int{api.FNot}, "p", "q"))
	}
	for _, s := range []string{"p | ~p", "~~(p | ~p)", "~~p -> p", "p -> ~~p", "~~~p -> ~p", "~p | ~~p", "(p -> ~p) -> ~p", "p -> p | 0", "0 -> p", "~(p & ~p)"} {
		look(read(t, s))
	}
	if count[true] < 1500 || count[false] < 2000 {
		t.Errorf("few came: %v", count)
	}
}
