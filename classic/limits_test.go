package classic_test

import (
	"fmt"
	"math/rand"
	"slices"
	"strings"
	"testing"

	"sequent/api"
)

// holes says that one thing more than there are holes has two in one of them. Its proofs grow fast.
func holes(n int) api.Sequent {
	var s api.Sequent
	at := func(thing, hole int) api.Formula { return numbered(thing*n + hole) }
	for thing := range n + 1 {
		var somewhere []api.Formula
		for hole := range n {
			somewhere = append(somewhere, at(thing, hole))
		}
		s.Left = append(s.Left, joined(api.FOr, somewhere...))
	}
	for hole := range n {
		var both []api.Formula
		for thing := range n + 1 {
			for other := range thing {
				both = append(both, node(api.FAnd, at(thing, hole), at(other, hole)))
			}
		}
		s.Right = append(s.Right, joined(api.FOr, both...))
	}
	return s
}

func TestHoles(t *testing.T) {
	for n := 1; n <= 6; n++ {
		s := holes(n)
		if _, _, valid, much := proved(t, s); !valid && (!much || n < 5) {
			t.Errorf("%d holes: valid: %v, too much: %v", n, valid, much)
		}
		s.Left = s.Left[1:]
		if _, _, valid, _ := proved(t, s); valid {
			t.Errorf("%d holes are too few for as many", n)
		}
	}
}

// TestWhatIsNotNeeded: at most 60 formulas stand in a sequent, so that what is not needed must go ahead of a rule that makes it longer.
func TestWhatIsNotNeeded(t *testing.T) {
	var others []api.Formula
	for i := range 58 {
		others = append(others, numbered(i))
	}
	p, q := name("p"), name("q")
	and, or, then := node(api.FAnd, p, q), node(api.FOr, p, q), node(api.FThen, p, p)
	for _, s := range []api.Sequent{
		{Left: append(slices.Clone(others), and), Right: []api.Formula{p}},
		{Left: []api.Formula{p}, Right: append(slices.Clone(others), or)},
		{Left: others, Right: []api.Formula{then, q}},
		{Left: append(slices.Clone(others), and), Right: []api.Formula{node(api.FAnd, q, p)}},
		{Left: append(slices.Clone(others), node(api.FAnd, and, p)), Right: []api.Formula{node(api.FNot, node(api.FNot, and))}},
	} {
		p, _, valid, much := proved(t, s)
		if !valid || much {
			t.Errorf("%s: %v, %v", told(s), valid, much)
		}
		if rulesIn(p)["weak"] != 1 {
			t.Errorf("%s: %v", told(s), rulesIn(p))
		}
	}
	proved(t, api.Sequent{Left: append(slices.Clone(others), and), Right: []api.Formula{name("r")}})
}

// rulesIn counts the steps by each rule.
func rulesIn(p api.Proof) map[string]int {
	count := map[string]int{p.Rule: 1}
	for _, k := range p.Kids {
		for rule, n := range rulesIn(k) {
			count[rule] += n
		}
	}
	return count
}

// TestWhatGoesAlong: where there is room, nothing needs to go.
func TestWhatGoesAlong(t *testing.T) {
	chance := rand.New(rand.NewSource(8))
	for range 3000 {
		s := anySequent(chance, 25, 3)
		if p, _, _, _ := proved(t, s); rulesIn(p)["weak"] != 0 {
			t.Fatalf("%s: %v", told(s), rulesIn(p))
		}
	}
}

// TestAllNeeded has 60 formulas, and needs all of them.
func TestAllNeeded(t *testing.T) {
	s := api.Sequent{Left: []api.Formula{node(api.FAnd, numbered(0), name("b"))}}
	for i := range 58 {
		s.Left = append(s.Left, node(api.FThen, numbered(i), numbered(i+1)))
	}
	s.Right = []api.Formula{node(api.FAnd, numbered(58), name("b"))}
	if _, _, valid, much := proved(t, s); !valid && !much {
		t.Errorf("%s is not valid", told(s))
	}
	s.Left = append(s.Left[:1], s.Left[2:]...)
	if _, _, valid, much := proved(t, s); valid || much {
		t.Errorf("%s: %v, %v", told(s), valid, much)
	}
}

// TestDeepProofs: all chains of FNot must be taken apart, one behind the other, so that the proof is as deep as they are long, and may be too deep.
func TestDeepProofs(t *testing.T) {
	p, q, r := name("p"), name("q"), name("r")
	var others []api.Formula
	for i := range 55 {
		others = append(others, numbered(i))
	}
	deep := func(long int) []api.Formula {
		return []api.Formula{node(api.FAnd, nots(190, p), name("s")), node(api.FThen, p, nots(190, q)), node(api.FThen, q, nots(long, r))}
	}
	for long := 0; long <= 40; long += 2 {
		s := api.Sequent{Left: deep(long), Right: []api.Formula{r}}
		if _, _, valid, much := proved(t, s); valid == much || valid != (long <= 16) {
			t.Errorf("%d times FNot: %v, %v", long, valid, much)
		}
		s = api.Sequent{Left: append(deep(long), others...), Right: []api.Formula{r, name("x")}}
		if _, _, valid, much := proved(t, s); valid == much || valid && long > 16 || much && long < 10 {
			t.Errorf("%d times FNot among others: %v, %v", long, valid, much)
		}
	}
}

func nodesOfProof(p api.Proof) int {
	n := nodesIn(p.End)
	for _, k := range p.Kids {
		n += nodesOfProof(k)
	}
	return n
}

// TestLongContext: what is not needed makes a proof neither too long nor too large.
func TestLongContext(t *testing.T) {
	for _, others := range []int{14, 40} {
		s := holes(4)
		for i := range others {
			s.Left = append(s.Left, nots(199, numbered(100+i)))
		}
		p, _, valid, much := proved(t, s)
		if !valid || much {
			t.Errorf("%d others: %v, %v", others, valid, much)
		}
		if n := nodesOfProof(p); n > 1<<21 {
			t.Errorf("%d others: the proof has %d nodes", others, n)
		}
	}
}

// parity speaks of things with three edges each, and says that where all but one have an odd number of edges that are true, so has the last one: each edge ends at two things, and the things are even in number.
func parity(chance *rand.Rand, things int) api.Sequent {
	var ends []int
	for i := range 3 * things {
		ends = append(ends, i/3)
	}
	chance.Shuffle(len(ends), func(i, j int) { ends[i], ends[j] = ends[j], ends[i] })
	edges := make([][]api.Formula, things)
	for i, thing := range ends {
		edges[thing] = append(edges[thing], numbered(i/2))
	}
	same := func(a, b api.Formula) api.Formula {
		return node(api.FAnd, node(api.FThen, a, b), node(api.FThen, b, a))
	}
	var all []api.Formula
	for _, e := range edges {
		all = append(all, same(e[0], same(e[1], e[2])))
	}
	return api.Sequent{Left: all[1:], Right: all[:1]}
}

// TestParity has proofs with more and more steps, until they are too many.
func TestParity(t *testing.T) {
	chance := rand.New(rand.NewSource(1))
	for things := 2; things <= 24; things += 2 {
		s := parity(chance, things)
		if _, _, valid, much := proved(t, s); valid == much || much && things < 10 {
			t.Errorf("%d things: %v, %v", things, valid, much)
		}
		s.Left = append(s.Left, s.Right...)
		s.Right = nil
		if _, _, valid, _ := proved(t, s); valid {
			t.Errorf("%d things: all of them may have an odd number", things)
		}
	}
}

// TestGreatSequents have as many nodes as there may be.
func TestGreatSequents(t *testing.T) {
	number := 0
	fresh := func() api.Formula {
		number++
		return numbered(number)
	}
	row := func(kind int) api.Formula {
		f := fresh()
		for range 99 {
			f = node(kind, f, fresh())
		}
		return f
	}
	chain := func() api.Formula { return nots(199, fresh()) }
	for what, make := range map[string]func() api.Formula{
		"and":  func() api.Formula { return row(api.FAnd) },
		"or":   func() api.Formula { return row(api.FOr) },
		"then": func() api.Formula { return row(api.FThen) },
		"not":  chain,
	} {
		var l []api.Formula
		for range 60 {
			l = append(l, make())
		}
		for _, left := range []int{0, 30, 60} {
			s := api.Sequent{Left: l[:left], Right: l[left:]}
			if _, _, valid, much := proved(t, s); valid || much {
				t.Errorf("%s, %d at the left: %v, %v", what, left, valid, much)
			}
		}
		s := api.Sequent{Left: l[:30], Right: append(slices.Clone(l[31:]), l[7])}
		if _, _, valid, much := proved(t, s); !valid || much {
			t.Errorf("%s at both sides: %v, %v", what, valid, much)
		}
	}
}

// clauses are each of three names, or of their opposites.
func clauses(chance *rand.Rand, many, names int) []api.Formula {
	var all []api.Formula
	for range many {
		var one []api.Formula
		for range 3 {
			one = append(one, nots(chance.Intn(2), numbered(chance.Intn(names))))
		}
		all = append(all, joined(api.FOr, one...))
	}
	return all
}

// TestHardSequents: they all end, and what is answered is right; it may be too much.
func TestHardSequents(t *testing.T) {
	chance := rand.New(rand.NewSource(5))
	for _, names := range []int{5, 8, 12, 15, 30, 100} {
		for _, many := range []int{3 * names, 4 * names, 5 * names, 8 * names} {
			l := clauses(chance, many, names)
			var s api.Sequent
			for part := range slices.Chunk(l, (many+59)/60) {
				s.Left = append(s.Left, joined(api.FAnd, part...))
			}
			if names < 10 {
				decided(t, s)
			} else {
				proved(t, s)
			}
		}
	}
}

// TestLargerSequents are right where they are not too much.
func TestLargerSequents(t *testing.T) {
	chance := rand.New(rand.NewSource(6))
	for _, c := range []struct{ nodes, names, times int }{{26, 4, 2000}, {40, 6, 1500}, {100, 8, 500}, {195, 9, 200}} {
		for range c.times {
			decided(t, anySequent(chance, c.nodes, c.names))
		}
	}
	for range 100 {
		s := api.Sequent{}
		for range 30 {
			s.Left = append(s.Left, anyFormula(chance, 1+chance.Intn(200), 40))
			s.Right = append(s.Right, anyFormula(chance, 1+chance.Intn(200), 40))
		}
		proved(t, s)
	}
}

func TestLongNames(t *testing.T) {
	a, b := strings.Repeat("z", 8), strings.Repeat("a", 8)
	_, counter, valid, _ := proved(t, sequent(t, fmt.Sprintf("%s, b, %s, b, %s => c", a, b, a)))
	if valid || !slices.Equal(counter, []string{b, "b", a}) {
		t.Errorf("%v, %q", valid, counter)
	}
}
