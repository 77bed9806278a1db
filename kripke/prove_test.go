package kripke_test

import (
	"math/rand"
	"slices"
	"testing"

	"sequent/api"
	"sequent/kripke"
	"sequent/truth"
)

func TestKnownSequents(t *testing.T) {
	for text, want := range map[string]bool{
		"=> p | ~p":                             false,
		"=> ~~(p | ~p)":                         true,
		"=> ((p -> q) -> p) -> p":               false,
		"=> ~~(((p -> q) -> p) -> p)":           true,
		"=>":                                    false,
		"=> 1":                                  true,
		"=> 0":                                  false,
		"0 =>":                                  true,
		"1 =>":                                  false,
		"1 => 0":                                false,
		"0 => 1":                                true,
		"1 => 1":                                true,
		"0 => 0":                                true,
		"0 => p":                                true,
		"p => 1":                                true,
		"p =>":                                  false,
		"=> p":                                  false,
		"p => p":                                true,
		"p, p => p":                             true,
		"p, q => q":                             true,
		"p, p =>":                               false,
		"p & ~p, p & ~p =>":                     true,
		"~p, p =>":                              true,
		"~p, p => q":                            true,
		"p -> q, q -> r => p -> r":              true,
		"p -> q, q -> r => r -> p":              false,
		"=> (p -> q) | (q -> p)":                false,
		"=> ~p | ~~p":                           false,
		"=> ~~p -> p":                           false,
		"=> p -> ~~p":                           true,
		"=> ~~~p -> ~p":                         true,
		"=> ~(p & q) -> ~p | ~q":                false,
		"=> ~p | ~q -> ~(p & q)":                true,
		"=> ~(p | q) -> ~p & ~q":                true,
		"=> ~p & ~q -> ~(p | q)":                true,
		"p -> q => ~q -> ~p":                    true,
		"~q -> ~p => p -> q":                    false,
		"p -> q => ~p | q":                      false,
		"~p | q => p -> q":                      true,
		"p | q, ~p => q":                        true,
		"p | q, p => q":                         false,
		"p -> 0 => ~p":                          true,
		"~p => p -> 0":                          true,
		"1 -> p => p":                           true,
		"0 -> p => p":                           false,
		"=> 0 -> p":                             true,
		"p | p => p & p":                        true,
		"p & q | r => (p | r) & (q | r)":        true,
		"(p | r) & (q | r) => p & q | r":        true,
		"~p -> q | r => (~p -> q) | (~p -> r)":  false,
		"~~(p -> q) => ~~p -> ~~q":              true,
		"~~p -> ~~q => ~~(p -> q)":              true,
		"(p | ~p) -> 0 =>":                      true,
		"p -> q -> r => p & q -> r":             true,
		"p & q -> r => p -> q -> r":             true,
		"((p -> q) -> q) -> q => p -> q":        true,
		"(p -> q) -> p, p -> q => q":            true,
		"((p -> q) -> r) -> p, ~r => ~~p":       false,
		"((~~p -> p) -> p | ~p) -> ~p | ~~p =>": false,
		"=> ((~~p -> p) -> p | ~p) -> ~p | ~~p": false,
		"p -> q, ~p -> q => ~~q":                true,
		"p -> q, ~p -> q => q":                  false,
		"(p -> q) -> 0 => ~q & ~~p":             true,
		"~q & ~~p => (p -> q) -> 0":             true,
		"p | (p -> q), (p -> q) -> p => p":      true,
		"(p | (p -> q)) -> q => q":              true,
		"((p -> q) | (q -> p)) -> r, ~r => ~~r": true,
		"~(p -> q), ~(q -> p) =>":               true,
		"(((p -> q) -> p) -> p) -> q => q":      true,
		"~~p, ~~q => ~~(p & q)":                 true,
		"~~(p | q) => ~~p | ~~q":                false,
		"((a -> b) -> c), (b -> c), (a -> c) -> b => c": false,
	} {
		s := sequent(t, text)
		if _, _, valid := proved(t, s); valid != want || isValid(s) != want {
			t.Errorf("%s: %v", text, valid)
		}
	}
}

// smallFormulas are all of so many nodes at most, by their nodes, of two names.
func smallFormulas(most int) [][]api.Formula {
	all := make([][]api.Formula, most+1)
	all[1] = []api.Formula{name("p"), name("q"), node(api.FTrue), node(api.FFalse)}
	for nodes := 2; nodes <= most; nodes++ {
		for _, a := range all[nodes-1] {
			all[nodes] = append(all[nodes], node(api.FNot, a))
		}
		for first := 1; first < nodes-1; first++ {
			for _, a := range all[first] {
				for _, b := range all[nodes-1-first] {
					all[nodes] = append(all[nodes], node(api.FAnd, a, b), node(api.FOr, a, b), node(api.FThen, a, b))
				}
			}
		}
	}
	return all
}

// heap has the worlds of all models that grow with so many worlds at most, and names of p and q, side by side.
type heap struct {
	see    [][]int
	names  [][]string
	forced map[string][]bool
}

func heapOf(most int) *heap {
	h := &heap{forced: map[string][]bool{}}
	for n := 1; n <= most; n++ {
		for rel := range 1 << (n * n) {
			for _, names := range allNames(n) {
				m := api.Model{N: n, True: names}
				for pair := range n * n {
					if rel>>pair&1 == 1 {
						m.Rel = append(m.Rel, [2]int{pair / n, pair % n})
					}
				}
				h.add(m)
			}
		}
	}
	return h
}

// allNames are all ways in which p and q are true at so many worlds.
func allNames(n int) [][][]string {
	var all [][][]string
	for row := range 1 << (2 * n) {
		names := make([][]string, n)
		for w := range n {
			if row>>(2*w)&1 == 1 {
				names[w] = append(names[w], "p")
			}
			if row>>(2*w+1)&1 == 1 {
				names[w] = append(names[w], "q")
			}
		}
		all = append(all, names)
	}
	return all
}

func (h *heap) add(m api.Model) {
	if ungrown(m) >= 0 {
		return
	}
	first := len(h.see)
	for w := range m.N {
		var see []int
		for _, v := range seen(m, w) {
			see = append(see, first+v)
		}
		h.see = append(h.see, see)
		h.names = append(h.names, m.True[w])
	}
}

// forcing tells of each world whether it forces f.
func (h *heap) forcing(f api.Formula) []bool {
	if l, known := h.forced[text(f)]; known {
		return l
	}
	var of [][]bool
	for _, k := range f.Kids {
		of = append(of, h.forcing(k))
	}
	out := make([]bool, len(h.see))
	for w, see := range h.see {
		switch f.Kind {
		case api.FVar:
			out[w] = slices.Contains(h.names[w], f.Name)
		case api.FTrue:
			out[w] = true
		case api.FAnd:
			out[w] = of[0][w] && of[1][w]
		case api.FOr:
			out[w] = of[0][w] || of[1][w]
		case api.FThen:
			out[w] = !slices.ContainsFunc(see, func(v int) bool { return of[0][v] && !of[1][v] })
		case api.FNot:
			out[w] = !slices.ContainsFunc(see, func(v int) bool { return of[0][v] })
		}
	}
	h.forced[text(f)] = out
	return out
}

// speaksAgainst: is there a world that does?
func (h *heap) speaksAgainst(s api.Sequent) bool {
	for w := range h.see {
		isForced := func(f api.Formula) bool { return h.forcing(f)[w] }
		isNot := func(f api.Formula) bool { return !h.forcing(f)[w] }
		if !slices.ContainsFunc(s.Left, isNot) && !slices.ContainsFunc(s.Right, isForced) {
			return true
		}
	}
	return false
}

// TestAllSmallFormulas holds them against all models with three worlds at most, which are enough for them, and against the second reckoning.
func TestAllSmallFormulas(t *testing.T) {
	h := heapOf(3)
	for _, f := range slices.Concat(smallFormulas(5)...) {
		for _, s := range []api.Sequent{
			{Right: []api.Formula{f}},
			{Left: []api.Formula{f}},
			{Left: []api.Formula{f}, Right: []api.Formula{f}},
			{Left: []api.Formula{f, f}, Right: []api.Formula{name("p")}},
		} {
			if valid := decided(t, s); valid == h.speaksAgainst(s) {
				t.Fatalf("%s: valid: %v, but small models say otherwise", told(s), valid)
			}
		}
	}
}

func TestAllSmallPairs(t *testing.T) {
	h := heapOf(3)
	all := slices.Concat(smallFormulas(3)...)
	for _, f := range all {
		for _, g := range all {
			for _, s := range []api.Sequent{
				{Left: []api.Formula{f}, Right: []api.Formula{g}},
				{Left: []api.Formula{f, g}},
				{Left: []api.Formula{f, g, f}, Right: []api.Formula{name("q")}},
				{Left: []api.Formula{f, node(api.FThen, g, f)}, Right: []api.Formula{g}},
			} {
				if valid := decided(t, s); valid == h.speaksAgainst(s) {
					t.Fatalf("%s: valid: %v, but small models say otherwise", told(s), valid)
				}
			}
		}
	}
}

// TestAllSmallSequents: up to two formulas at the Left, among them the same ones, and up to one at the Right.
func TestAllSmallSequents(t *testing.T) {
	pool := []string{"p", "q", "1", "0", "~p", "~~q", "p & q", "q | p", "p -> q", "~(p -> q)", "(q -> p) -> p", "p | ~p"}
	sides := [][]api.Formula{nil}
	for i, one := range pool {
		sides = append(sides, []api.Formula{read(t, one)})
		for _, other := range pool[:i+1] {
			sides = append(sides, []api.Formula{read(t, one), read(t, other)})
		}
	}
	for _, left := range sides {
		for _, right := range sides {
			if len(right) <= 1 {
				decided(t, api.Sequent{Left: left, Right: right})
			}
		}
	}
}

// anyParts are so many formulas, those in one ahead of it, all of them with at most MaxNodes nodes.
func anyParts(chance *rand.Rand, many int) []api.Formula {
	var all []api.Formula
	for i := range min(many, 1+chance.Intn(4)) {
		all = append(all, name(string(rune('a'+i))))
	}
	known := map[string]bool{}
	for len(all) < many {
		f := node(api.FNot+chance.Intn(4), all[chance.Intn(len(all))])
		if f.Kind != api.FNot {
			f.Kids = append(f.Kids, all[chance.Intn(len(all))])
		}
		if chance.Intn(20) == 0 {
			f = node(api.FTrue + chance.Intn(2))
		}
		if nodesOf(f) <= api.MaxNodes && !known[text(f)] {
			known[text(f)] = true
			all = append(all, f)
		}
	}
	return all
}

func nodesOf(f api.Formula) int {
	n := 1
	for _, k := range f.Kids {
		n += nodesOf(k)
	}
	return n
}

// anySequent has formulas of so many.
func anySequent(chance *rand.Rand, many int) api.Sequent {
	all := anyParts(chance, many)
	var s api.Sequent
	for range chance.Intn(4) {
		s.Left = append(s.Left, all[chance.Intn(many)])
	}
	if chance.Intn(8) > 0 {
		s.Right = []api.Formula{all[many-1-chance.Intn((many+1)/2)]}
	}
	return s
}

// TestAnySequents: none of them is too much (which proved looks at).
func TestAnySequents(t *testing.T) {
	chance := rand.New(rand.NewSource(3))
	count := map[bool]int{}
	for many, times := range map[int]int{3: 1000, 5: 2000, 7: 3000, 8: 3000, 9: 600, 10: 400} {
		for range times {
			count[decided(t, anySequent(chance, many))]++
		}
	}
	if count[true] < 1000 || count[false] < 1000 {
		t.Errorf("too few of a kind: %v", count)
	}
}

// TestDoubleNegation: ~~A is valid just where A is true in all rows.
func TestDoubleNegation(t *testing.T) {
	chance := rand.New(rand.NewSource(4))
	all := slices.Concat(smallFormulas(5)...)
	for range 3000 {
		parts := anyParts(chance, 1+chance.Intn(8))
		all = append(all, parts[len(parts)-1])
	}
	for _, f := range all {
		want, _, e := truth.Valid(f)
		if e != (api.Fault{}) {
			t.Fatal(e)
		}
		if _, _, valid := proved(t, api.Sequent{Right: []api.Formula{nots(2, f)}}); valid != want {
			t.Fatalf("~~(%s): %v", text(f), valid)
		}
	}
}

// TestOrIsOneOfBoth: A | B is valid just where A is or B is.
func TestOrIsOneOfBoth(t *testing.T) {
	isValid := func(f api.Formula) bool {
		_, _, valid := proved(t, api.Sequent{Right: []api.Formula{f}})
		return valid
	}
	decide := func(a, b api.Formula) {
		t.Helper()
		if or := isValid(node(api.FOr, a, b)); or != (isValid(a) || isValid(b)) {
			t.Fatalf("(%s) | (%s): %v", text(a), text(b), or)
		}
	}
	all := slices.Concat(smallFormulas(3)...)
	for _, a := range all {
		for _, b := range all {
			decide(a, b)
		}
	}
	chance := rand.New(rand.NewSource(5))
	for range 3000 {
		parts := anyParts(chance, 2+chance.Intn(8))
		decide(parts[len(parts)-1], parts[len(parts)-2])
	}
}

// TestProofsAreClassicalToo: what is proved is true in all rows.
func TestProofsAreClassicalToo(t *testing.T) {
	for _, f := range slices.Concat(smallFormulas(5)...) {
		_, _, valid, _ := kripke.Prove(api.Sequent{Right: []api.Formula{f}})
		if all, _, _ := truth.Valid(f); valid && !all {
			t.Errorf("%s", text(f))
		}
	}
}
