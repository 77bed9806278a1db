package lambda_test

import (
	"math/rand"
	"reflect"
	"testing"

	"sequent/api"
	"sequent/formula"
	"sequent/kripke"
	"sequent/lambda"
)

// noTerm looks that Inhabit tells just this fault.
func noTerm(t *testing.T, what string, f api.Formula, want api.Fault) {
	t.Helper()
	x, e := lambda.Inhabit(f)
	if e != want || !reflect.DeepEqual(x, api.Term{}) {
		t.Errorf("%s: %v, %v, want %v", what, x, e, want)
	}
}

// partsIn counts the formulas at f's nodes, each once.
func partsIn(f api.Formula) int {
	all, _ := formula.Parts(f)
	return len(all)
}

// inhabited holds the answer against layer 5 and against Infer.
func inhabited(t *testing.T, f api.Formula) (x api.Term, found bool) {
	t.Helper()
	x, e := lambda.Inhabit(f)
	_, _, valid, _ := kripke.Prove(api.Sequent{Right: []api.Formula{f}})
	switch {
	case !valid:
		if e != fault(api.ErrNone, 0) || !reflect.DeepEqual(x, api.Term{}) {
			t.Fatalf("%s: %v, %v, and there is no proof", text(f), x, e)
		}
		return x, false
	case e != (api.Fault{}):
		t.Fatalf("%s: fault %v", text(f), e)
	}
	g, e := inferred(t, nil, x)
	if e != (api.Fault{}) || !isSameFormula(g, asType(f)) {
		t.Fatalf("%s: %s has %s, %v", text(f), told(x), text(g), e)
	}
	return x, true
}

func TestTermsOfFormulas(t *testing.T) {
	for f, want := range map[string]bool{
		"p -> p": true, "p -> q -> p": true, "(p -> q -> r) -> (p -> q) -> p -> r": true, "p -> q": false, "p": false,
		"1": true, "0": false, "~0": true, "~1": false, "0 -> p": true, "p -> 1": true, "~~1": true, "1 -> 0": false,
		"p & q -> q & p": true, "p & q -> p": true, "p -> p & p": true, "p -> p & q": false, "1 & 1": true, "1 & p": false,
		"p | q -> q | p": true, "p -> p | q": true, "p -> q | p": true, "p | p -> p": true, "p | q -> p": false, "0 | 1": true, "0 | p": false,
		"p | ~p": false, "~~(p | ~p)": true, "~~p -> p": false, "p -> ~~p": true, "~~~p -> ~p": true, "~p | ~~p": false,
		"((p -> q) -> p) -> p": false, "~~(((p -> q) -> p) -> p)": true, "((((p -> q) -> p) -> p) -> q) -> q": true,
		"~(p | q) -> ~p & ~q": true, "~p & ~q -> ~(p | q)": true, "~p | ~q -> ~(p & q)": true, "~(p & q) -> ~p | ~q": false,
		"p & ~p -> q": true, "(p -> q) -> ~q -> ~p": true, "(~q -> ~p) -> p -> q": false, "(~p | q) -> p -> q": true,
		"p & (q | r) -> p & q | p & r": true, "(p | q) & (p | r) -> p | q & r": true, "(p -> q) | (q -> p)": false,
		"(p | q -> r) -> (p -> r) & (q -> r)": true, "~(p -> q) -> ~~p & ~q": true, "(p | ~p) -> ~~p -> p": true,
	} {
		if _, found := inhabited(t, read(f)); found != want {
			t.Errorf("%s: %v", f, found)
		}
	}
}

// smallFormulas are all plain ones of so many nodes at most, of p and q.
func smallFormulas(most int) []api.Formula {
	bySize := make([][]api.Formula, most+1)
	bySize[1] = []api.Formula{node(api.FTrue), node(api.FFalse), name("p"), name("q")}
	var all []api.Formula
	for size := 1; size <= most; size++ {
		for _, f := range bySize[size-1] {
			bySize[size] = append(bySize[size], nots(1, f))
		}
		for n := 1; n < size-1; n++ {
			for _, f := range bySize[n] {
				for _, g := range bySize[size-1-n] {
					bySize[size] = append(bySize[size], node(api.FAnd, f, g), node(api.FOr, f, g), node(api.FThen, f, g))
				}
			}
		}
		all = append(all, bySize[size]...)
	}
	return all
}

// TestCurryAndHoward: a formula has a term just if it has a proof.
func TestCurryAndHoward(t *testing.T) {
	count := 0
	for _, f := range smallFormulas(5) {
		if _, found := inhabited(t, f); found {
			count++
		}
	}
	if count < 500 {
		t.Errorf("only %d have a term", count)
	}
}

// anyFormula has about so many nodes.
func anyFormula(chance *rand.Rand, nodes int) api.Formula {
	if nodes <= 1 {
		return []api.Formula{name("p"), name("q"), name("p"), name("r"), node(api.FFalse), node(api.FTrue)}[min(chance.Intn(12), 5-chance.Intn(3))]
	}
	if nodes == 2 || chance.Intn(5) == 0 {
		return nots(1, anyFormula(chance, nodes-1))
	}
	n := 1 + chance.Intn(nodes-2)
	kind := []int{api.FAnd, api.FOr, api.FThen, api.FThen}[chance.Intn(4)]
	return node(kind, anyFormula(chance, n), anyFormula(chance, nodes-1-n))
}

// TestTermsOfFormulasByChance: of up to ten parts; of eight or fewer ErrMuch is never told, as inhabited looks at.
func TestTermsOfFormulasByChance(t *testing.T) {
	chance := rand.New(rand.NewSource(4))
	found, large := 0, 0
	for range 12000 {
		f := anyFormula(chance, 3+chance.Intn(16))
		if chance.Intn(2) == 0 {
			f = nots(2, f)
		}
		if n := partsIn(f); n > api.MaxSubs {
			noTerm(t, text(f), f, fault(api.ErrMany, 0))
			continue
		} else if _, has := inhabited(t, f); has {
			found++
			if n >= 8 {
				large++
			}
		}
	}
	if found < 1000 || large < 300 {
		t.Errorf("only %d have a term, %d of them with eight parts and more", found, large)
	}
}

// TestMostParts: more than MaxSubs formulas at f's nodes are too many, whether it has a term or not; each is counted once, and FNot has no 0 of its own.
func TestMostParts(t *testing.T) {
	for n := range 30 {
		not := nots(n, name("p"))
		same := node(api.FThen, nots(n, name("p")), nots(n, name("p")))
		for _, f := range []api.Formula{not, same} {
			if partsIn(f) > api.MaxSubs {
				noTerm(t, text(f), f, fault(api.ErrMany, 0))
			} else {
				inhabited(t, f)
			}
		}
	}
	for f, parts := range map[string]int{
		"(a & b) & (c & d) -> a & b -> (c & d) & a":    10,
		"(a & b) & (c & d) -> e & b -> (c & d) & a":    12,
		"p & q & r -> ~(p & q) -> p & q":               8,
		"~~~~~~~~(p -> p)":                             10,
		"~~~~~~~~~(p -> p)":                            11,
		"~p & ~q & ~r | 0 -> ~p & ~q":                  11,
		"~p & ~q & ~q | (~p & ~q) -> ~p & ~q":          8,
		"(p | ~p -> q) -> ~~q & (p | ~p -> q)":         9,
		"((p -> q) -> p) -> ~~((p -> q) -> p) & ~~(p)": 10,
	} {
		g := read(f)
		if partsIn(g) != parts {
			t.Errorf("%s has %d parts", f, partsIn(g))
		}
		if parts > api.MaxSubs {
			noTerm(t, f, g, fault(api.ErrMany, 0))
		} else {
			inhabited(t, g)
		}
	}
	noTerm(t, "one that has no term", read("a & b & c & d & e & f"), fault(api.ErrMany, 0))
}

// TestLongTerms: proofs of these are the longest that are known of so many parts.
func TestLongTerms(t *testing.T) {
	lem := read("p | ~p")
	for times := range 6 {
		all := doubled(api.FAnd, times, lem)
		for _, f := range []api.Formula{
			node(api.FThen, node(api.FThen, all, nots(1, name("p"))), all),
			node(api.FThen, nots(1, all), name("p")),
			nots(2, all),
		} {
			if plainFault(f) != (api.Fault{}) || partsIn(f) > api.MaxSubs {
				noTerm(t, text(f), f, fault(api.ErrMany, 0))
				continue
			}
			x, found := inhabited(t, f)
			if n := sizeOf(x); !found || partsIn(f) <= 8 && n > api.MaxTerm/2 {
				t.Errorf("%s: %v, %d nodes", text(f), found, n)
			}
		}
	}
}

// TestTypesLargerThanFormulas: what stands in Of is plain, though its type has more nodes than a formula may have.
func TestTypesLargerThanFormulas(t *testing.T) {
	all := doubled(api.FAnd, 5, nots(1, node(api.FFalse)))
	for _, f := range []api.Formula{node(api.FOr, all, all), node(api.FThen, all, all), node(api.FAnd, all, all)} {
		if _, found := inhabited(t, f); !found {
			t.Errorf("%s has no term", text(f))
		}
	}
	if n := formulaSize(asType(node(api.FOr, all, all))); n <= api.MaxNodes {
		t.Errorf("%d nodes", n)
	}
}

func formulaSize(f api.Formula) int {
	n := 1
	for _, k := range f.Kids {
		n += formulaSize(k)
	}
	return n
}

// TestTermsAreWorkedOut: nothing is left to be done in short ones.
func TestTermsAreWorkedOut(t *testing.T) {
	for f, want := range map[string]api.Term{
		"p -> p":              lam("p", v(0)),
		"p -> q -> p":         lam("p", lam("q", v(1))),
		"p & q -> q & p":      lam("p & q", pair(second(v(0)), first(v(0)))),
		"(p -> q) -> p -> q":  lam("p -> q", v(0)),
		"p -> (p -> q) -> q":  lam("p", lam("p -> q", app(v(0), v(1)))),
		"p -> ~~p":            lam("p", lam("~p", app(v(0), v(1)))),
		"p | q -> q | p":      lam("p | q", either(v(0), right("q | p", v(0)), left("q | p", v(0)))),
		"0 -> p":              lam("0", absurd("p", v(0))),
		"p -> ~p -> q":        lam("p", lam("~p", absurd("q", app(v(0), v(1))))),
		"1 & 1":               pair(unit(), unit()),
		"p -> p | (q -> ~~p)": lam("p", left("p | (q -> ~~p)", v(0))),
	} {
		x, _ := inhabited(t, read(f))
		if !isSame(x, want) {
			t.Errorf("%s: %s, want %s", f, told(x), told(want))
		}
	}
}
