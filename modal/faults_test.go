package modal_test

import (
	"math"
	"math/rand"
	"slices"
	"strings"
	"testing"

	"sequent/api"
	"sequent/formula"
	"sequent/kripke"
	"sequent/modal"
)

// refused looks that Eval and Holds tell just this fault, and nothing beside it.
func refused(t *testing.T, what string, m api.Model, f api.Formula, want api.Fault) {
	t.Helper()
	if l, e := modal.Eval(m, f); e != want || len(l) != 0 {
		t.Errorf("%s: Eval: %v, %v, want %v", what, l, e, want)
	}
	if is, e := modal.Holds(m, f); e != want || is {
		t.Errorf("%s: Holds: %v, %v, want %v", what, is, e, want)
	}
}

func refusedShape(t *testing.T, what string, m api.Model, want api.Fault) {
	t.Helper()
	if is, e := modal.Shape(m); e != want || is != [6]bool{} {
		t.Errorf("%s: Shape: %v, %v, want %v", what, is, e, want)
	}
}

// badModel is one that Check speaks against.
type badModel struct {
	what string
	m    api.Model
	want api.Fault
}

// badModels have each fault of chapter 5's Check, alone and ahead of others.
func badModels() []badModel {
	many := slices.Repeat([]string{"p"}, 31)
	list := func(n int) [][]string { return make([][]string, n) }
	pairs := func(n int, pair [2]int) [][2]int { return slices.Repeat([][2]int{pair}, n) }
	return []badModel{
		{"the zero model", api.Model{}, fault(api.ErrMany, 0)},
		{"no worlds", api.Model{True: list(1)}, fault(api.ErrMany, 0)},
		{"fewer than none", api.Model{N: -1}, fault(api.ErrMany, 0)},
		{"the least N", api.Model{N: math.MinInt, True: list(2)}, fault(api.ErrMany, 0)},
		{"the greatest N", api.Model{N: math.MaxInt, True: list(2)}, fault(api.ErrMany, 0)},
		{"41 worlds", api.Model{N: 41, True: list(41)}, fault(api.ErrMany, 0)},
		{"64 worlds", api.Model{N: 64, True: list(64)}, fault(api.ErrMany, 0)},
		{"2001 pairs", api.Model{N: 1, Rel: pairs(2001, [2]int{}), True: list(1)}, fault(api.ErrMany, 0)},
		{"2001 pairs ahead of all else", api.Model{N: 1, Rel: pairs(2001, [2]int{9, 9}), True: list(3)}, fault(api.ErrMany, 0)},
		{"no entries", api.Model{N: 2}, fault(api.ErrSize, 0)},
		{"an entry too few", api.Model{N: 2, True: list(1)}, fault(api.ErrSize, 0)},
		{"an entry too many, and other faults", api.Model{N: 2, Rel: pairs(1, [2]int{2, 2}), True: [][]string{many, nil, {"P"}}}, fault(api.ErrSize, 0)},
		{"a pair from none", api.Model{N: 2, Rel: [][2]int{{0, 1}, {2, 0}}, True: list(2)}, fault(api.ErrRange, 1)},
		{"a pair to none", api.Model{N: 2, Rel: [][2]int{{0, 1}, {1, 1}, {0, 2}}, True: list(2)}, fault(api.ErrRange, 2)},
		{"a pair from below", api.Model{N: 2, Rel: [][2]int{{-1, 1}, {9, 9}}, True: [][]string{{"P"}, many}}, fault(api.ErrRange, 0)},
		{"a pair to the least", api.Model{N: 40, Rel: [][2]int{{39, math.MinInt}}, True: list(40)}, fault(api.ErrRange, 0)},
		{"a pair to the greatest", api.Model{N: 40, Rel: [][2]int{{39, 39}, {math.MaxInt, 0}}, True: list(40)}, fault(api.ErrRange, 1)},
		{"a pair to world 40", api.Model{N: 40, Rel: [][2]int{{39, 40}}, True: list(40)}, fault(api.ErrRange, 0)},
		{"31 names", api.Model{N: 3, True: [][]string{nil, many, {"P"}}}, fault(api.ErrMany, 1)},
		{"31 that are none", api.Model{N: 3, True: [][]string{nil, nil, slices.Repeat([]string{""}, 31)}}, fault(api.ErrMany, 2)},
		{"no name, then 31", api.Model{N: 3, True: [][]string{{"p", "P"}, many, nil}}, fault(api.ErrName, 0)},
		{"the empty name", api.Model{N: 1, True: [][]string{{""}}}, fault(api.ErrName, 0)},
		{"nine letters", api.Model{N: 2, True: [][]string{{"abcdefgh"}, {"abcdefghi"}}}, fault(api.ErrName, 1)},
		{"very many letters", api.Model{N: 1, True: [][]string{{strings.Repeat("a", 1<<20)}}}, fault(api.ErrName, 0)},
		{"no letters", api.Model{N: 1, True: [][]string{{"p1"}}}, fault(api.ErrName, 0)},
	}
}

// badFormula is one that Check speaks against.
type badFormula struct {
	what string
	f    api.Formula
	want api.Fault
}

func badFormulas() []badFormula {
	p := name("p")
	return []badFormula{
		{"zero", api.Formula{}, fault(api.ErrKind, 0)},
		{"kind 10", node(10), fault(api.ErrKind, 0)},
		{"kind -1 below", node(api.FBox, node(-1, p)), fault(api.ErrKind, 1)},
		{"a box of nothing", node(api.FBox), fault(api.ErrSize, 0)},
		{"a diamond of two", node(api.FAnd, p, node(api.FDia, p, p)), fault(api.ErrSize, 2)},
		{"a not of nothing", node(api.FDia, node(api.FNot)), fault(api.ErrSize, 1)},
		{"one side", node(api.FThen, p), fault(api.ErrSize, 0)},
		{"three sides", node(api.FOr, p, p, p), fault(api.ErrSize, 0)},
		{"a name with Kids", api.Formula{Kind: api.FVar, Name: "p", Kids: []api.Formula{p}}, fault(api.ErrSize, 0)},
		{"true with Kids", node(api.FNot, node(api.FTrue, p)), fault(api.ErrSize, 1)},
		{"no name", node(api.FAnd, p, node(api.FBox, name(""))), fault(api.ErrName, 3)},
		{"a capital", name("P"), fault(api.ErrName, 0)},
		{"a long name", node(api.FBox, name("abcdefghi")), fault(api.ErrName, 1)},
		{"a box with a name", api.Formula{Kind: api.FBox, Name: "p", Kids: []api.Formula{p}}, fault(api.ErrName, 0)},
		{"two faults", node(api.FThen, node(api.FDia), node(12)), fault(api.ErrSize, 1)},
		{"201 nodes", below(api.FBox, api.MaxNodes, p), fault(api.ErrMany, 0)},
		{"a fault behind 200 nodes", node(api.FAnd, below(api.FNot, api.MaxNodes-2, p), node(12)), fault(api.ErrMany, 0)},
		{"boxes without end", endless(api.FBox), fault(api.ErrMany, 0)},
		{"diamonds without end", node(api.FOr, p, endless(api.FDia)), fault(api.ErrMany, 0)},
	}
}

// TestModelsFaults: they are told ahead of those of the formula, and ahead of too many names.
func TestModelsFaults(t *testing.T) {
	thirteen := joined(api.FAnd, letters(13)...)
	for _, c := range badModels() {
		if e := kripke.Check(c.m); e != c.want {
			t.Errorf("%s: Check says %v, want %v", c.what, e, c.want)
		}
		refusedShape(t, c.what, c.m, c.want)
		for _, f := range []api.Formula{name("p"), node(api.FTrue), thirteen, endless(api.FNot)} {
			refused(t, c.what, c.m, f, c.want)
		}
		for _, bad := range badFormulas() {
			refused(t, c.what+", "+bad.what, c.m, bad.f, c.want)
		}
	}
}

// TestFormulasFaults: they are told ahead of too many names, and where the model shows no sign of it.
func TestFormulasFaults(t *testing.T) {
	for _, c := range badFormulas() {
		if e := formula.Check(c.f); e != c.want {
			t.Errorf("%s: Check says %v, want %v", c.what, e, c.want)
		}
		for _, m := range []api.Model{seeing(""), seeing("0"), odd(), ring(40)} {
			refused(t, c.what, m, c.f, c.want)
		}
	}
	many := joined(api.FAnd, letters(13)...)
	refused(t, "a fault in the last of 14", ring(40), node(api.FAnd, many, name("P")), fault(api.ErrName, 26))
	refused(t, "a fault in the first of 14", seeing(""), node(api.FAnd, node(api.FNot), many), fault(api.ErrSize, 1))
}

// TestManyOfHolds: of too many names Eval says nothing.
func TestManyOfHolds(t *testing.T) {
	many := joined(api.FAnd, letters(26)...)
	if l, e := modal.Eval(ring(40), many); e != (api.Fault{}) || len(l) != 40 || slices.Contains(l, true) {
		t.Errorf("Eval: %v, %v", l, e)
	}
	if is, e := modal.Holds(ring(40), many); e != fault(api.ErrMany, 0) || is {
		t.Errorf("Holds: %v, %v", is, e)
	}
	if is, e := modal.Holds(ring(40), node(api.FOr, node(api.FTrue), name("p"))); e != fault(api.ErrMany, 0) || is {
		t.Errorf("Holds of what is always true: %v, %v", is, e)
	}
}

// TestAnyFaults holds both against the two Checks, of models and formulas that are marred by chance.
func TestAnyFaults(t *testing.T) {
	chance := rand.New(rand.NewSource(5))
	count := map[api.Fault]int{}
	for range 20000 {
		m := anyModel(chance, 1+chance.Intn(3), "p", "q")
		f := anyFormula(chance, 1+chance.Intn(8), "p", "q", "r", "s", "t")
		if chance.Intn(2) == 0 {
			marModel(chance, &m)
		}
		if chance.Intn(2) == 0 {
			marFormula(chance, &f)
		}
		want := kripke.Check(m)
		if is, e := modal.Shape(m); e != want || want != (api.Fault{}) && is != [6]bool{} {
			t.Fatalf("%v: Shape: %v, %v, want %v", m, is, e, want)
		}
		if want == (api.Fault{}) {
			want = formula.Check(f)
		}
		if l, e := modal.Eval(m, f); e != want || want != (api.Fault{}) && len(l) > 0 {
			t.Fatalf("%v, %v: Eval: %v, %v, want %v", m, f, l, e, want)
		}
		if want == (api.Fault{}) && m.N*len(namesIn(f)) > 12 {
			want = fault(api.ErrMany, 0)
		}
		if is, e := modal.Holds(m, f); e != want || want != (api.Fault{}) && is {
			t.Fatalf("%v, %v: Holds: %v, %v, want %v", m, f, is, e, want)
		}
		count[want]++
	}
	if len(count) < 15 {
		t.Errorf("few faults came: %v", count)
	}
}

func marModel(chance *rand.Rand, m *api.Model) {
	switch chance.Intn(5) {
	case 0:
		m.N += chance.Intn(3) - 1
	case 1:
		m.Rel = append(m.Rel, [2]int{chance.Intn(6) - 1, chance.Intn(6) - 1})
	case 2:
		w := chance.Intn(m.N)
		m.True[w] = append(m.True[w], []string{"p", "", "P", "abcdefghi"}[chance.Intn(4)])
	case 3:
		m.True[chance.Intn(m.N)] = slices.Repeat([]string{"p"}, 29+chance.Intn(4))
	case 4:
		m.True = m.True[:chance.Intn(m.N+1)]
	}
}

// marFormula changes a node that is come to by chance.
func marFormula(chance *rand.Rand, f *api.Formula) {
	if len(f.Kids) > 0 && chance.Intn(3) > 0 {
		marFormula(chance, &f.Kids[chance.Intn(len(f.Kids))])
		return
	}
	switch chance.Intn(3) {
	case 0:
		f.Kind = chance.Intn(12) - 1
	case 1:
		f.Kids = append(f.Kids, name("p"))
	case 2:
		f.Name = []string{"", "p", "P"}[chance.Intn(3)]
	}
}
