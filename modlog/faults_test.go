package modlog_test

import (
	"math"
	"math/rand"
	"reflect"
	"testing"

	"sequent/api"
	"sequent/formula"
	"sequent/modlog"
)

// refused looks that Decide tells just this fault, and nothing beside it.
func refused(t *testing.T, what string, logic int, f api.Formula, want api.Fault) {
	t.Helper()
	if is, m, e := modlog.Decide(logic, f); e != want || is || !reflect.DeepEqual(m, api.Model{}) {
		t.Errorf("%d, %s: %v, %v, %v, want %v", logic, what, is, m, e, want)
	}
}

// noLogics are numbers that none has.
var noLogics = []int{0, 9, 10, -1, -8, 16, 255, 257, 1 << 32, 1<<32 + 1, 1<<63 - 1, -1 << 63}

// badFormula is one that Check speaks against.
type badFormula struct {
	what string
	f    api.Formula
	want api.Fault
}

func badFormulas() []badFormula {
	p := name("p")
	return []badFormula{
		{"zero", api.Formula{}, fault(api.ErrKind, 0)},
		{"kind 10", node(10), fault(api.ErrKind, 0)},
		{"the least kind", node(math.MinInt, p), fault(api.ErrKind, 0)},
		{"kind -1 below", node(api.FNot, node(-1, p)), fault(api.ErrKind, 1)},
		{"a not of nothing", node(api.FNot), fault(api.ErrSize, 0)},
		{"a not of two", node(api.FAnd, p, node(api.FNot, p, p)), fault(api.ErrSize, 2)},
		{"one side", node(api.FThen, p), fault(api.ErrSize, 0)},
		{"three sides", node(api.FOr, p, p, p), fault(api.ErrSize, 0)},
		{"a name with Kids", api.Formula{Kind: api.FVar, Name: "p", Kids: []api.Formula{p}}, fault(api.ErrSize, 0)},
		{"true with Kids", node(api.FNot, node(api.FTrue, p)), fault(api.ErrSize, 1)},
		{"a box of nothing", node(api.FBox), fault(api.ErrSize, 0)},
		{"a diamond of two", node(api.FOr, node(api.FDia, p, p), p), fault(api.ErrSize, 1)},
		{"no name", node(api.FAnd, p, node(api.FNot, name(""))), fault(api.ErrName, 3)},
		{"a capital", name("P"), fault(api.ErrName, 0)},
		{"a long name", node(api.FNot, name("abcdefghi")), fault(api.ErrName, 1)},
		{"a not with a name", api.Formula{Kind: api.FNot, Name: "p", Kids: []api.Formula{p}}, fault(api.ErrName, 0)},
		{"a box with a name", api.Formula{Kind: api.FBox, Name: "p", Kids: []api.Formula{p}}, fault(api.ErrName, 0)},
		{"two faults", node(api.FThen, node(api.FNot), node(12)), fault(api.ErrSize, 1)},
		{"201 nodes", below(api.FNot, api.MaxNodes, p), fault(api.ErrMany, 0)},
		{"201 nodes of few parts", node(api.FAnd, doubled(api.FAnd, 6, p), doubled(api.FAnd, 6, p)), fault(api.ErrMany, 0)},
		{"a fault behind 200 nodes", node(api.FAnd, below(api.FNot, api.MaxNodes-2, p), node(12)), fault(api.ErrMany, 0)},
		{"nots without end", endless(api.FNot), fault(api.ErrMany, 0)},
		{"boxes without end", node(api.FOr, p, endless(api.FBox)), fault(api.ErrMany, 0)},
		{"very many sides", node(api.FOr, make([]api.Formula, 1<<16)...), fault(api.ErrSize, 0)},
	}
}

// TestFormulasFaults: they are told ahead of all others.
func TestFormulasFaults(t *testing.T) {
	many := joined(api.FAnd, letters(11)...)
	for _, c := range badFormulas() {
		if e := formula.Check(c.f); e != c.want {
			t.Errorf("%s: Check says %v, want %v", c.what, e, c.want)
		}
		for logic := K; logic <= GL; logic++ {
			refused(t, c.what, logic, c.f, c.want)
		}
		for _, logic := range noLogics {
			refused(t, c.what, logic, c.f, c.want)
		}
	}
	for _, logic := range append([]int{K, S4, GL}, noLogics...) {
		refused(t, "a fault in the last of many", logic, node(api.FAnd, many, name("P")), fault(api.ErrName, 22))
		refused(t, "a fault in the first of many", logic, node(api.FAnd, node(api.FBox), many), fault(api.ErrSize, 1))
	}
}

// TestNoSuchLogic: it is told ahead of too many parts, and whether f is valid or not.
func TestNoSuchLogic(t *testing.T) {
	for _, logic := range noLogics {
		for _, f := range []api.Formula{name("p"), node(api.FTrue), node(api.FFalse), below(api.FBox, 9, name("p")), below(api.FBox, 10, name("p")), joined(api.FOr, letters(26)...)} {
			refused(t, text(f), logic, f, fault(api.ErrKind, 0))
		}
	}
}

// TestMostParts: just MaxSubs formulas at f's nodes are not too many; each is counted once.
func TestMostParts(t *testing.T) {
	p := name("p")
	for _, c := range []struct {
		f    api.Formula
		want int
	}{
		{below(api.FBox, 9, p), 10},
		{below(api.FBox, 10, p), 11},
		{below(api.FDia, 9, node(api.FTrue)), 10},
		{below(api.FDia, 10, node(api.FTrue)), 11},
		{below(api.FNot, 9, p), 10},
		{below(api.FNot, 10, p), 11},
		{below(api.FNot, 199, p), 200},
		{joined(api.FAnd, letters(5)...), 9},
		{node(api.FBox, joined(api.FOr, letters(5)...)), 10},
		{joined(api.FOr, letters(6)...), 11},
		{joined(api.FOr, letters(26)...), 51},
		{doubled(api.FAnd, 6, node(api.FBox, p)), 8},
		{doubled(api.FThen, 6, p), 7},
		{node(api.FNot, below(api.FDia, 2, doubled(api.FOr, 6, p))), 10},
		{node(api.FNot, below(api.FDia, 3, doubled(api.FOr, 6, p))), 11},
		{node(api.FThen, below(api.FBox, 8, p), below(api.FBox, 8, p)), 10},
		{node(api.FThen, below(api.FBox, 9, p), below(api.FBox, 9, p)), 11},
		{node(api.FThen, below(api.FBox, 8, p), below(api.FBox, 7, p)), 10},
		{node(api.FThen, below(api.FBox, 4, p), below(api.FDia, 4, p)), 10},
		{node(api.FThen, below(api.FBox, 5, p), below(api.FDia, 4, p)), 11},
		{node(api.FThen, below(api.FBox, 4, p), below(api.FBox, 4, name("q"))), 11},
		{node(api.FAnd, node(api.FTrue), node(api.FFalse)), 3},
		{joined(api.FOr, name("a"), node(api.FTrue), node(api.FFalse), name("b"), name("c")), 9},
		{joined(api.FOr, name("a"), node(api.FTrue), node(api.FFalse), name("b"), name("c"), name("d")), 11},
		{node(api.FOr, joined(api.FOr, letters(5)...), node(api.FTrue)), 11},
		{node(api.FOr, joined(api.FOr, letters(5)...), name("a")), 10},
	} {
		if n := partsIn(c.f); n != c.want {
			t.Errorf("%s: %d parts, want %d", text(c.f), n, c.want)
		}
		for logic := K; logic <= GL; logic++ {
			if c.want > api.MaxSubs {
				refused(t, text(c.f), logic, c.f, fault(api.ErrMany, 0))
			} else {
				decided(t, logic, c.f)
			}
		}
	}
}

// TestAnyFaults holds what is told against the chapter's order, of formulas that are marred by chance.
func TestAnyFaults(t *testing.T) {
	chance := rand.New(rand.NewSource(8))
	count := map[api.Fault]int{}
	for range 20000 {
		f := anyFormula(chance, 1+chance.Intn(20), []int{api.FNot, api.FBox, api.FDia}, "p", "q")
		if chance.Intn(2) == 0 {
			mar(chance, &f)
		}
		logic := chance.Intn(12) - 1
		want := formula.Check(f)
		switch {
		case want != api.Fault{}:
		case logic < K || logic > GL:
			want = fault(api.ErrKind, 0)
		case partsIn(f) > api.MaxSubs:
			want = fault(api.ErrMany, 0)
		}
		if want == (api.Fault{}) {
			asked(t, logic, f)
		} else {
			refused(t, "marred", logic, f, want)
		}
		count[want]++
	}
	if len(count) < 20 {
		t.Errorf("few faults came: %v", count)
	}
}

// mar changes a node that is come to by chance.
func mar(chance *rand.Rand, f *api.Formula) {
	if len(f.Kids) > 0 && chance.Intn(3) > 0 {
		mar(chance, &f.Kids[chance.Intn(len(f.Kids))])
		return
	}
	switch chance.Intn(3) {
	case 0:
		f.Kind = chance.Intn(12) - 1
	case 1:
		f.Kids = append(f.Kids, name("p"))
	case 2:
		f.Name = []string{"", "p", "P"}[chance.Intn(3)]
	}
}
