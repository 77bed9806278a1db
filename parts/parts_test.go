package parts_test

import (
	"reflect"
	"testing"
	"unsafe"

	"sequent/api"
	"sequent/formula"
	"sequent/parts"
)

func read(t *testing.T, text string) api.Formula {
	t.Helper()
	f, e := formula.Parse(text)
	if e != (api.Fault{}) {
		t.Fatalf("Parse(%q): %v", text, e)
	}
	return f
}

func TestTheSameFormulaHasTheSameNumber(t *testing.T) {
	table := parts.New()
	numbers := map[string]int{}
	for range 2 {
		for _, text := range []string{"p", "q", "~p", "[]p", "<>p", "p & q", "q & p", "p | q", "p -> q", "1", "0", "p & p", "~~p", "p & (q & p)", "p & q & p"} {
			n := table.Number(read(t, text))
			if was, known := numbers[text]; known && was != n {
				t.Errorf("%s has the numbers %d and %d", text, was, n)
			}
			numbers[text] = n
		}
	}
	texts := map[int]string{}
	for text, n := range numbers {
		if other, taken := texts[n]; taken {
			t.Errorf("%s and %s have the number %d", text, other, n)
		}
		texts[n] = text
	}
}

// TestNumbersOfParts: a formula that is put together of numbers is the one that was numbered, or a new one.
func TestNumbersOfParts(t *testing.T) {
	table := parts.New()
	p, q := table.Number(read(t, "p")), table.NumberOf(parts.Part{Kind: api.FVar, Name: "q"})
	and := table.NumberOf(parts.Part{Kind: api.FAnd, Count: 2, Kids: [2]int{p, q}})
	if n := table.Len(); n != 3 || table.Number(read(t, "p & q")) != and || table.Number(read(t, "q")) != q || table.Len() != n {
		t.Errorf("%d parts", table.Len())
	}
	not := table.NumberOf(parts.Part{Kind: api.FNot, Count: 1, Kids: [2]int{and}})
	if f := table.Formula(not); not != 3 || table.Nodes(not) != 4 || !reflect.DeepEqual(f, read(t, "~(p & q)")) {
		t.Errorf("%d, %v", not, f)
	}
}

// TestNumbersOfNodes: all that stands at nodes is held, each once, and that in a formula is ahead of it.
func TestNumbersOfNodes(t *testing.T) {
	for _, text := range []string{"p", "~~~p", "p & q -> ~(p & q) | 0", "[](p -> q) -> []p -> []q", "1 | 1 & 1 | 1"} {
		f := read(t, text)
		all, _ := formula.Parts(f)
		table := parts.New()
		if last := table.Number(f); table.Len() != len(all) || last != len(all)-1 {
			t.Errorf("%s: %d parts, the last has the number %d, want %d", text, table.Len(), last, len(all))
		}
		for n := range table.Len() {
			p := table.Part(n)
			for _, k := range p.Kids[:p.Count] {
				if k >= n {
					t.Errorf("%s: %d is in %d", text, k, n)
				}
			}
		}
	}
}

func TestPartsAreTheirFormulas(t *testing.T) {
	table := parts.New()
	for _, c := range []struct {
		text  string
		nodes int
	}{{"p", 1}, {"1", 1}, {"~p", 2}, {"p & q", 3}, {"p & p", 3}, {"[](p -> ~p) | <>0", 8}, {"(p & q) & (p & q)", 7}} {
		f := read(t, c.text)
		n := table.Number(f)
		if got := table.Formula(n); !reflect.DeepEqual(got, f) {
			t.Errorf("%s: %v", c.text, got)
		}
		if table.Nodes(n) != c.nodes {
			t.Errorf("%s: %d nodes, want %d", c.text, table.Nodes(n), c.nodes)
		}
		if p := table.Part(n); p.Kind != f.Kind || p.Name != f.Name || p.Count != len(f.Kids) {
			t.Errorf("%s: %v", c.text, p)
		}
	}
}

func TestFormulasAreNewMemory(t *testing.T) {
	f := read(t, "~p & ~p")
	table := parts.New()
	g := table.Formula(table.Number(f))
	h := table.Formula(table.Number(f))
	lists := [][]api.Formula{f.Kids, g.Kids, h.Kids, g.Kids[0].Kids, g.Kids[1].Kids, h.Kids[0].Kids, f.Kids[0].Kids}
	for i := range lists {
		for j := range i {
			if &lists[i][0] == &lists[j][0] {
				t.Errorf("the lists %d and %d share memory", i, j)
			}
		}
	}
	if unsafe.StringData(g.Kids[0].Kids[0].Name) == unsafe.StringData(f.Kids[0].Kids[0].Name) {
		t.Errorf("the name is kept")
	}
}
