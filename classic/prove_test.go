package classic_test

import (
	"math/rand"
	"slices"
	"testing"

	"sequent/api"
)

func TestExamplesOfTheChapter(t *testing.T) {
	p, _, valid, _ := proved(t, sequent(t, "=> p | ~p"))
	var rules []string
	for {
		rules = append(rules, p.Rule)
		if len(p.Kids) == 0 {
			break
		}
		p = p.Kids[0]
	}
	if !valid || !slices.Equal(rules, []string{"or-r", "not-r", "ax"}) {
		t.Errorf("p | ~p: %v, %q", valid, rules)
	}
	_, counter, valid, _ := proved(t, sequent(t, "p | q => p"))
	if valid || !slices.Equal(counter, []string{"q"}) {
		t.Errorf("p | q => p: %v, %q", valid, counter)
	}
}

func TestKnownSequents(t *testing.T) {
	for text, want := range map[string]bool{
		"=>":                           false,
		"=> 1":                         true,
		"=> 0":                         false,
		"0 =>":                         true,
		"1 =>":                         false,
		"1 => 0":                       false,
		"0 => 1":                       true,
		"1 => 1":                       true,
		"0 => 0":                       true,
		"p =>":                         false,
		"=> p":                         false,
		"p => p":                       true,
		"p, p => p, p":                 true,
		"p, p =>":                      false,
		"=> p, p":                      false,
		"=> p | ~p, p | ~p":            true,
		"p & ~p, p & ~p =>":            true,
		"p & q, p & q => p & q":        true,
		"p & q => p & q, p & q":        true,
		"p & (q & p) => q & p":         true,
		"=> ((p -> q) -> p) -> p":      true,
		"=> ~(p & q) -> ~p | ~q":       true,
		"~(p & q) => ~p, ~q":           true,
		"=> p -> q, q -> p":            true,
		"p -> q, q -> r => p -> r":     true,
		"p -> q, q -> r => r -> p":     false,
		"p | q, ~p => q":               true,
		"p | q, p => q":                false,
		"~~p => p":                     true,
		"=> ~1":                        false,
		"~0 => ~~1":                    true,
		"p -> 0 => ~p":                 true,
		"1 -> p => p":                  true,
		"0 -> p => p":                  false,
		"p | p => p & p":               true,
		"p -> p =>":                    false,
		"p & q | r => (p | r) & (q|r)": true,
		"(p | r) & (q|r) => p & q | r": true,
		"p -> q | r => p -> q, p -> r": true,
		"p | q => p & q":               false,
	} {
		s := sequent(t, text)
		if _, _, valid, _ := proved(t, s); valid != want || isValid(s) != want {
			t.Errorf("%s: %v", text, valid)
		}
	}
}

// smallFormulas are all of so many nodes at most, by their nodes, of two names.
func smallFormulas(most int) [][]api.Formula {
	all := make([][]api.Formula, most+1)
	all[1] = []api.Formula{name("p"), name("q"), node(api.FTrue), node(api.FFalse)}
	for nodes := 2; nodes <= most; nodes++ {
		for _, a := range all[nodes-1] {
			all[nodes] = append(all[nodes], node(api.FNot, a))
		}
		for first := 1; first < nodes-1; first++ {
			for _, a := range all[first] {
				for _, b := range all[nodes-1-first] {
					all[nodes] = append(all[nodes], node(api.FAnd, a, b), node(api.FOr, a, b), node(api.FThen, a, b))
				}
			}
		}
	}
	return all
}

func TestAllSmallFormulas(t *testing.T) {
	for _, f := range slices.Concat(smallFormulas(5)...) {
		decided(t, api.Sequent{Right: []api.Formula{f}})
		decided(t, api.Sequent{Left: []api.Formula{f}})
		decided(t, api.Sequent{Left: []api.Formula{f}, Right: []api.Formula{f}})
		decided(t, api.Sequent{Left: []api.Formula{f, f}, Right: []api.Formula{name("p")}})
	}
}

func TestAllSmallPairs(t *testing.T) {
	all := slices.Concat(smallFormulas(3)...)
	for _, f := range all {
		for _, g := range all {
			decided(t, api.Sequent{Left: []api.Formula{f}, Right: []api.Formula{g}})
			decided(t, api.Sequent{Left: []api.Formula{f, g}})
			decided(t, api.Sequent{Right: []api.Formula{f, g}})
		}
	}
}

// TestAllSmallSequents: up to two formulas at each side, among them the same ones.
func TestAllSmallSequents(t *testing.T) {
	sides := [][]api.Formula{nil}
	pool := []string{"p", "q", "1", "0", "~p", "p & q", "q | p", "p -> q", "~(p -> q)"}
	for i, text := range pool {
		sides = append(sides, []api.Formula{read(t, text)})
		for _, other := range pool[:i+1] {
			sides = append(sides, []api.Formula{read(t, text), read(t, other)})
		}
	}
	for _, left := range sides {
		for _, right := range sides {
			decided(t, api.Sequent{Left: left, Right: right})
		}
	}
}

// anyFormula has so many nodes, and names of so many.
func anyFormula(chance *rand.Rand, nodes, names int) api.Formula {
	switch {
	case nodes == 1 && chance.Intn(8) == 0:
		return node(api.FTrue + chance.Intn(2))
	case nodes == 1:
		return numbered(chance.Intn(names))
	case nodes == 2 || chance.Intn(5) == 0:
		return node(api.FNot, anyFormula(chance, nodes-1, names))
	}
	first := 1 + chance.Intn(nodes-2)
	return node(api.FAnd+chance.Intn(3), anyFormula(chance, first, names), anyFormula(chance, nodes-1-first, names))
}

// anySequent has just so many nodes.
func anySequent(chance *rand.Rand, nodes, names int) api.Sequent {
	var s api.Sequent
	for nodes > 0 {
		n := 1 + chance.Intn(nodes)
		nodes -= n
		if f := anyFormula(chance, n, names); chance.Intn(2) == 0 {
			s.Left = append(s.Left, f)
		} else {
			s.Right = append(s.Right, f)
		}
	}
	return s
}

// TestSequentsOf25Nodes: none of them is too much (which decided looks at), whatever its shape.
func TestSequentsOf25Nodes(t *testing.T) {
	chance := rand.New(rand.NewSource(4))
	for names := 1; names <= 8; names++ {
		for range 1500 {
			decided(t, anySequent(chance, 25, names))
		}
	}
	or, and, then := []api.Formula{}, []api.Formula{}, []api.Formula{}
	for i := range 8 {
		or = append(or, node(api.FOr, numbered(2*i), numbered(2*i+1)))
		and = append(and, node(api.FAnd, numbered(2*i), numbered(2*i+1)))
		then = append(then, node(api.FThen, numbered(2*i), numbered(2*i+1)))
	}
	last := []api.Formula{numbered(20)}
	for _, s := range []api.Sequent{
		{Left: or, Right: last}, {Left: last, Right: and}, {Left: then, Right: last}, {Left: or[:4], Right: slices.Concat(and[4:], last)},
		{Left: []api.Formula{nots(24, name("p"))}},
		{Left: []api.Formula{nots(12, name("p"))}, Right: []api.Formula{nots(11, name("p"))}},
		{Left: slices.Repeat(last, 25)}, {Left: slices.Repeat(last, 13), Right: slices.Repeat(last, 12)},
	} {
		proved(t, s)
	}
}

// TestManyBranches: equivalences that hang together in two ways have proofs with many steps.
func TestManyBranches(t *testing.T) {
	same := func(a, b api.Formula) api.Formula {
		return node(api.FAnd, node(api.FThen, a, b), node(api.FThen, b, a))
	}
	for n := 2; n <= 5; n++ {
		f, g := numbered(0), numbered(n-1)
		for i := 1; i < n; i++ {
			f, g = same(f, numbered(i)), same(g, numbered(n-1-i))
		}
		for _, s := range []api.Sequent{
			{Left: []api.Formula{f}, Right: []api.Formula{g}},
			{Right: []api.Formula{f, node(api.FNot, g)}},
			{Left: []api.Formula{f, node(api.FNot, g)}},
			{Left: []api.Formula{f}, Right: []api.Formula{node(api.FNot, g)}},
		} {
			decided(t, s)
		}
	}
}
