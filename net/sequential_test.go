package net_test

import (
	"math/rand"
	"reflect"
	"slices"
	"testing"

	"sequent/api"
	"sequent/net"
)

// TestSequentialSteps: proofs that can be but one, but for the order of what each step ends with.
func TestSequentialSteps(t *testing.T) {
	for _, c := range []struct {
		l     string
		links [][2]int
		want  string
	}{
		{"p P", [][2]int{{0, 1}}, "ax"},
		{"P p", [][2]int{{0, 1}}, "ax"},
		{"+pP", [][2]int{{0, 1}}, "par(ax)"},
		{"*pp P P", [][2]int{{0, 2}, {1, 3}}, "tensor(ax, ax)"},
		{"*p+qQ P", [][2]int{{0, 3}, {1, 2}}, "tensor(ax, par(ax))"},
		{"*+qQp P", [][2]int{{0, 1}, {2, 3}}, "tensor(par(ax), ax)"},
		{"+*pqP Q", [][2]int{{0, 2}, {1, 3}}, "par(tensor(ax, ax))"},
		{"+*pq+PQ", [][2]int{{0, 2}, {1, 3}}, "par(par(tensor(ax, ax)))"},
		{"**pqr P Q R", [][2]int{{0, 3}, {1, 4}, {2, 5}}, "tensor(tensor(ax, ax), ax)"},
	} {
		tree, e := net.Sequential(list(c.l), c.links)
		if got := rulesOf(tree); got != c.want || e != (api.Fault{}) {
			t.Errorf("%s: %s, %v, want %s", c.l, got, e, c.want)
		}
		sequential(t, list(c.l), c.links, true)
	}
}

func rulesOf(t api.Tree) string {
	text := t.Rule
	for i, k := range t.Kids {
		text += []string{"(", ", "}[min(i, 1)] + rulesOf(k)
	}
	if len(t.Kids) > 0 {
		text += ")"
	}
	return text
}

// TestStepsAreLookedAt: what looks at proofs here refuses those that are marred.
func TestStepsAreLookedAt(t *testing.T) {
	chance := rand.New(rand.NewSource(9))
	for range 2000 {
		n := 1 + chance.Intn(5)
		l, links := grown(chance, n, 1+chance.Intn(n+1), "p", "q")
		tree, _ := net.Sequential(l, links)
		at := &tree
		for len(at.Kids) > 0 && chance.Intn(3) > 0 {
			at = &at.Kids[chance.Intn(len(at.Kids))]
		}
		switch chance.Intn(4) {
		case 0:
			at.End = append(at.End, atom("p"))
		case 1:
			at.End = at.End[1:]
		case 2:
			at.Rule = map[string]string{"ax": "par", "par": "tensor", "tensor": "ax"}[at.Rule]
		case 3:
			at.Kids = append(at.Kids, api.Tree{Rule: "ax", End: list("p P")})
		}
		if wrongIn(tree) == "" {
			t.Fatalf("%v passes", tree)
		}
	}
}

// TestLargeNets have up to MaxNodes nodes: no trial goes through all ways, so a proof with just these links is searched for instead.
func TestLargeNets(t *testing.T) {
	chance := rand.New(rand.NewSource(10))
	count := map[bool]int{}
	for range 150 {
		n := 20 + chance.Intn(36)
		// With n links and k formulas there are 4 n - k nodes.
		fewest := max(1, 4*n-api.MaxNodes)
		l, links := grown(chance, n, fewest+chance.Intn(20-fewest+1), []string{"p", "q", "letters"}[:1+chance.Intn(3)]...)
		correct(t, l, mixed(chance, links), true)
		sequential(t, l, links, true)
		links = crossed(chance, l, links, 1+chance.Intn(3))
		is := hasProof(strands(l, links))
		correct(t, l, links, is)
		sequential(t, l, links, is)
		count[is]++
	}
	if count[true] < 10 || count[false] < 10 {
		t.Errorf("few nets came: %v", count)
	}
}

// TestLargestNets have just MaxNodes nodes, or one less where one formula cannot have as many.
func TestLargestNets(t *testing.T) {
	chance := rand.New(rand.NewSource(11))
	for _, c := range []struct{ links, formulas, nodes int }{{50, 1, 199}, {51, 4, 200}, {55, 20, 200}} {
		for range 20 {
			l, links := grown(chance, c.links, c.formulas, "p")
			if n := len(nodesOf(l...)); n != c.nodes || len(l) != c.formulas {
				t.Fatalf("%d nodes of %d formulas", n, len(l))
			}
			correct(t, l, links, true)
			sequential(t, l, links, true)
		}
	}
}

// TestDeepNets are linked straight, from a tower to its dual: one LPar waits for the next one inside.
func TestDeepNets(t *testing.T) {
	for _, kind := range []int{api.LTensor, api.LPar} {
		for _, place := range []int{0, 1} {
			f := tower(50, kind, place)
			for _, l := range [][]api.Linear{{f, dual(f)}, {par(dual(f), f)}} {
				correct(t, l, straight(f), true)
				sequential(t, l, straight(f), true)
			}
			correct(t, []api.Linear{tensor(dual(f), f)}, straight(f), false)
			sequential(t, []api.Linear{tensor(dual(f), f)}, straight(f), false)
		}
	}
}

// row has p * ~p so many times, then p, and then ~p. They are linked from each to the next: opposite to name, and the last opposite to the first name.
func row(tensors int) (l []api.Linear, links [][2]int) {
	l = append(slices.Repeat(list("*pP"), tensors), list("p P")...)
	links = [][2]int{{2*tensors + 1, 0}}
	for i := range tensors {
		links = append(links, [2]int{2*i + 1, 2*i + 2})
	}
	return l, links
}

// TestRows: any LTensor of a row may be taken off first; with a link that leads back there is none.
func TestRows(t *testing.T) {
	l, links := row(18)
	correct(t, l, links, true)
	sequential(t, l, links, true)
	links[0], links[18] = [2]int{0, 35}, [2]int{36, 37}
	correct(t, l, links, false)
	sequential(t, l, links, false)
	l, links = row(49)
	for len(l) > 1 {
		l = append(l[:len(l)-2], par(l[len(l)-2], l[len(l)-1]))
	}
	correct(t, l, links, true)
	sequential(t, l, links, true)
}

// TestNothingBesideFields: fields that the chapter does not speak of are zero.
func TestNothingBesideFields(t *testing.T) {
	tree, _ := net.Sequential(list("+pP"), [][2]int{{1, 0}})
	p, not := atom("p"), opposite("p")
	if tree.Rule != "par" || len(tree.Kids) != 1 || !reflect.DeepEqual(tree.End, []api.Linear{par(p, not)}) {
		t.Fatalf("%v", tree)
	}
	kid := tree.Kids[0]
	if kid.Rule != "ax" || len(kid.Kids) != 0 || !isSameBag(kid.End, []api.Linear{p, not}) || len(kid.End[0].Kids)+len(kid.End[1].Kids) > 0 {
		t.Errorf("%v", kid)
	}
}
