package cut_test

import (
	"maps"
	"math/rand"
	"slices"
	"testing"

	"sequent/api"
	"sequent/calculus"
	"sequent/classic"
)

// axiomsOf are a proof by ax, and one by cut of f over two such, of a sequent that has f at both sides.
func axiomsOf(f api.Formula, end api.Sequent, intuit bool) []api.Proof {
	first, second := cutPremises(f, end, intuit)
	return []api.Proof{axiom(f, end), {Rule: "cut", F: f, End: end, Kids: []api.Proof{axiom(f, first), axiom(f, second)}}}
}

// TestMostParts: of more than MaxSubs parts ErrMany is told, whether there is a cut or not, and in the intuitionistic calculus alone.
func TestMostParts(t *testing.T) {
	for n := range 26 {
		names := api.Sequent{Left: letters(n + 1), Right: letters(1)}
		chain := api.Sequent{Left: []api.Formula{nots(n, name("p"))}, Right: []api.Formula{nots(n, name("p"))}}
		for _, p := range slices.Concat(axiomsOf(name("a"), names, true), axiomsOf(chain.Left[0], chain, true)) {
			if n+1 > api.MaxSubs {
				refusedEliminating(t, "many parts", p, true, fault(api.ErrMany, 0))
			} else {
				eliminated(t, p, true)
			}
		}
		for _, p := range slices.Concat(axiomsOf(name("a"), names, false), axiomsOf(chain.Left[0], chain, false)) {
			eliminated(t, p, false)
		}
	}
}

// TestPartsAreCountedOnce: formulas that stand more than once, and what stands in others, too.
func TestPartsAreCountedOnce(t *testing.T) {
	end := sequent(t, "p, q, ~p, ~q, q -> p, q -> q, p => ~(p & q) | (p -> q)") // ten parts
	extra := readAll(t, "p & q, ~(p & q), p -> q, q, ~q")
	for _, times := range []int{1, 2, 4} {
		s := api.Sequent{Left: slices.Repeat(with(end.Left, extra...), times), Right: end.Right}
		p, valid := foundCut(name("p"), s, true)
		if !valid || len(partsIn(s)) != api.MaxSubs {
			t.Fatalf("%s: %v, %d parts", told(s), valid, len(partsIn(s)))
		}
		eliminated(t, p, true)
		more := weakened(api.Sequent{Left: with(s.Left, name("r")), Right: s.Right}, p)
		refusedEliminating(t, "one more at the Left", more, true, fault(api.ErrMany, 0))
	}
	p := proof(t, "ax", "p", "p => p")
	nine := readAll(t, "~p, ~~p, ~~~p, p & p, p | p, p -> p, 1, 0, p")
	eliminated(t, weakened(api.Sequent{Left: with(nine, name("q")), Right: p.End.Right}, p), true)
	refusedEliminating(t, "eleven", weakened(api.Sequent{Left: with(nine, letters(2)...), Right: p.End.Right}, p), true, fault(api.ErrMany, 0))
	eliminated(t, proof(t, "false", "0", "0 => (p | q) & (r | s) & 1"), true)
	right := proof(t, "false", "0", "0 => (p | q) & (r | s) & 1 & 1")
	refusedEliminating(t, "at the Right", right, true, fault(api.ErrMany, 0))
}

// TestPartsOfCutsDoNotCount: only End's are counted, however many a cut's F has.
func TestPartsOfCutsDoNotCount(t *testing.T) {
	for _, nodes := range []int{11, 25, 27, 101, 199} {
		f, ofF := implied(nodes)
		for what, intuit := range calculi() {
			p := cutOver(f, proof(t, "ax", "p", "p => p"), ofF, intuit)
			if q, much := eliminated(t, p, intuit); much || q.Rule != "ax" {
				t.Errorf("%s, %d nodes: %v", what, nodes, q)
			}
		}
	}
	many := letters(26)
	all := many[0]
	for _, f := range many[1:] {
		all = node(api.FOr, all, f)
	}
	p, valid := foundCut(all, sequent(t, "a => a"), false)
	if q, much := eliminated(t, p, false); !valid || much || q.Rule != "ax" {
		t.Errorf("%v, %v", valid, q)
	}
}

// TestMostNodes: of 25 nodes at most ErrMuch is never told in the classical calculus: eliminated looks at that.
func TestMostNodes(t *testing.T) {
	chance := rand.New(rand.NewSource(2))
	count := 0
	for range 4000 {
		end := anySequent(chance, 25, 1+chance.Intn(5), false)
		p, valid := anyCut(chance, end, 4, false)
		if !valid {
			continue
		}
		count++
		if _, much := eliminated(t, p, false); much {
			t.Fatalf("%s: too much", told(end))
		}
	}
	if count < 500 {
		t.Errorf("only %d proofs", count)
	}
}

// TestBranchingEnds have as many branches as so few nodes allow.
func TestBranchingEnds(t *testing.T) {
	for _, text := range []string{
		"a | b, b | c, c | a, a & b | c => (a & c | b & c) | a & b",
		"(a -> b) & (b -> a) -> c, a | b -> c, c -> a => (c -> b) -> c -> b",
		"a | b, c | d, a -> e, b -> e, c -> f, d -> f => e & f",
		"=> (a | ~a) & (b | ~b) & (c | ~c) & (d | ~d) & (e | ~e)",
		"~((a | ~a) & (b | ~b) & (c | ~c) & (d | ~d)) =>",
		"a | b | c | d | e, ~a, ~b, ~c, ~d => e",
	} {
		end := sequent(t, text)
		if n := len(nodesIn(end)); n > 25 {
			t.Errorf("%s has %d nodes", text, n)
		}
		cuts := 0
		for _, f := range []string{"a", "a & b", "a | ~a", "c -> d", "~(a & c)", "0", "1"} {
			if p, valid := foundCut(read(t, f), end, false); valid {
				cuts++
				eliminated(t, p, false)
			}
		}
		if cuts == 0 {
			t.Errorf("nothing is cut to %s", text)
		}
	}
}

// TestLongIntuitionisticProofs: in the longest that are known of so many parts each branch needs all others again.
func TestLongIntuitionisticProofs(t *testing.T) {
	either := read(t, "p | ~p")
	for times := range 6 {
		all := doubled(api.FAnd, times, either)
		for _, end := range []api.Sequent{
			{Left: []api.Formula{node(api.FThen, all, nots(1, name("p")))}, Right: []api.Formula{all}},
			{Left: []api.Formula{nots(1, all)}, Right: []api.Formula{name("p")}},
		} {
			cuts := 0
			for _, text := range append(slices.Sorted(maps.Keys(partsIn(end))), "1", "~0") {
				if p, valid := foundCut(read(t, text), end, true); valid {
					cuts++
					if _, much := eliminated(t, p, true); much && times < 4 {
						t.Errorf("%s: too much", told(end))
					}
				}
			}
			if cuts == 0 {
				t.Errorf("nothing is cut to %s", told(end))
			}
		}
	}
}

// TestEightParts: of at most so many ErrMuch is never told in the intuitionistic calculus.
func TestEightParts(t *testing.T) {
	chance := rand.New(rand.NewSource(3))
	count := 0
	for range 6000 {
		end := anySequent(chance, 8+chance.Intn(12), 3, true)
		if n := len(partsIn(end)); n > 8 || n < 6 {
			continue
		}
		p, valid := anyCut(chance, end, 2, true)
		if !valid {
			continue
		}
		count++
		if _, much := eliminated(t, p, true); much {
			t.Fatalf("%s: too much", told(end))
		}
	}
	if count < 200 {
		t.Errorf("only %d proofs", count)
	}
}

// TestManyFormulas: as many as a sequent may have.
func TestManyFormulas(t *testing.T) {
	for _, c := range []struct {
		f, right string
	}{
		{"p", "p"}, {"p & q", "q & p"}, {"~(p | ~p)", "q"}, {"p | q", "q | p"}, {"(p -> q) -> p", "~~p"}, {"0", "p"}, {"p", "1"},
	} {
		for what, intuit := range calculi() {
			end := api.Sequent{Left: slices.Repeat(readAll(t, c.f), 59), Right: readAll(t, c.right)}
			short := api.Sequent{Left: end.Left[:1], Right: end.Right}
			for _, text := range []string{"1", c.f, c.right} {
				p, valid := foundCut(read(t, text), short, intuit)
				if !valid {
					t.Fatalf("%s: %s is not cut to %s", what, text, told(short))
				}
				eliminated(t, weakened(end, p), intuit)
			}
		}
	}
}

// notsApart takes so many FNot, an even number, from f at the Left, and then ends by ax with f at the Right.
func notsApart(times int, f api.Formula, s api.Sequent) api.Proof {
	if times == 0 {
		return axiom(f, s)
	}
	full, less := nots(times, f), nots(times-1, f)
	isFull := func(g api.Formula) bool { return text(g) == text(full) }
	left := but(s.Left, slices.IndexFunc(s.Left, isFull))
	over := api.Sequent{Left: left, Right: with(s.Right, less)}
	above := api.Sequent{Left: with(left, nots(times-2, f)), Right: s.Right}
	return api.Proof{Rule: "not-l", F: full, End: s, Kids: []api.Proof{
		{Rule: "not-r", F: less, End: over, Kids: []api.Proof{notsApart(times-2, f, above)}},
	}}
}

// wideProof is without cut, and branches early: where it is gone through without branching first, it gets too deep.
func wideProof(t *testing.T) api.Proof {
	t.Helper()
	p, q, r := name("p"), name("q"), name("r")
	one, two, three := nots(190, p), node(api.FThen, p, nots(190, q)), node(api.FThen, q, nots(190, r))
	right := []api.Formula{r}
	last := api.Sequent{Left: []api.Formula{one, three, nots(190, q)}, Right: right}
	return api.Proof{Rule: "then-l", F: two, End: api.Sequent{Left: []api.Formula{one, two, three}, Right: right}, Kids: []api.Proof{
		notsApart(190, p, api.Sequent{Left: []api.Formula{one, three}, Right: []api.Formula{r, p}}),
		{Rule: "then-l", F: three, End: last, Kids: []api.Proof{
			notsApart(190, q, api.Sequent{Left: []api.Formula{one, nots(190, q)}, Right: []api.Formula{r, q}}),
			notsApart(190, r, api.Sequent{Left: []api.Formula{one, nots(190, q), nots(190, r)}, Right: right}),
		}},
	}}
}

// TestWithoutCutIsNeverMuch: what has no cut is there already, where none would be found, too.
func TestWithoutCutIsNeverMuch(t *testing.T) {
	p := wideProof(t)
	if e := calculus.Check(p, false); e != (api.Fault{}) {
		t.Fatalf("it is no proof: %v", e)
	}
	if _, _, _, f := classic.Prove(p.End); f != fault(api.ErrMuch, 0) {
		t.Errorf("one is found, or %v: this test needs an End of which none is", f)
	}
	if _, much := eliminated(t, p, false); much {
		t.Error("too much, without cut")
	}
	f := name("p")
	first, second := cutPremises(f, p.End, false)
	eliminated(t, api.Proof{Rule: "cut", F: f, End: p.End, Kids: []api.Proof{weakened(first, p), weakened(second, p)}}, false)
}

// TestProofsThatShareMemory: a proof may be small, as its lists share memory, and yet too large to be answered as it is.
func TestProofsThatShareMemory(t *testing.T) {
	for what, intuit := range calculi() {
		great := doubled(api.FAnd, 6, name("p"))
		end := api.Sequent{Left: with(slices.Repeat([]api.Formula{great}, 40), name("p")), Right: []api.Formula{great}}
		p := sharedProof(end, 30)
		if n := len(stepsOf(p)); n < 1000 {
			t.Fatalf("%s: %d steps", what, n)
		}
		q, much := eliminated(t, p, intuit)
		nodes := 0
		for _, s := range stepsOf(q) {
			nodes += len(nodesIn(s.End))
		}
		if much || nodes > 1<<21 {
			t.Errorf("%s: %v, %d nodes", what, much, nodes)
		}
	}
}

// sharedProof goes down to p by and-r, with so many steps by weak above each.
func sharedProof(end api.Sequent, more int) api.Proof {
	f := end.Right[0]
	if f.Kind == api.FVar {
		return axiom(f, end)
	}
	kid := sharedProof(api.Sequent{Left: end.Left, Right: f.Kids[:1]}, more)
	p := api.Proof{Rule: "and-r", F: f, End: end, Kids: []api.Proof{kid, kid}}
	for range more {
		p = weakened(end, p)
	}
	return p
}

// TestHardEnds: they all end, and what is answered is right; it may be too much.
func TestHardEnds(t *testing.T) {
	chance := rand.New(rand.NewSource(4))
	for _, nodes := range []int{26, 40, 100, 195} {
		for range 150 {
			end := anySequent(chance, nodes, 6, false)
			if p, valid := anyCut(chance, end, 6, false); valid {
				eliminated(t, p, false)
			}
		}
	}
}
