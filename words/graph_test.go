package words_test

import (
	"reflect"
	"slices"
	"testing"
	"unsafe"

	"sequent/api"
	"sequent/stop"
	"sequent/words"
)

// nameOf tells a variable as it is.
func nameOf(n words.Node) string { return n.Name }

// became is the word of the node.
func became(g *words.Graph, at int) api.Word { return g.Word(at, nameOf) }

func isAt(t *testing.T, what string, g *words.Graph, at int, want api.Word) {
	t.Helper()
	if got := became(g, at); !reflect.DeepEqual(got, want) {
		t.Errorf("%s: %v, want %v", what, got, want)
	}
}

func clashes(t *testing.T, what string, work func()) {
	t.Helper()
	if got, want := stop.Caught(work), (api.Fault{Code: api.ErrNone}); got != want {
		t.Errorf("%s: %v, want %v", what, got, want)
	}
}

// TestVariablesAreOneOfTheirSide: they have one node there, big names have one at each place.
func TestVariablesAreOneOfTheirSide(t *testing.T) {
	g := words.NewGraph()
	if g.Len() != 0 {
		t.Errorf("%d nodes ahead of all", g.Len())
	}
	x := g.Add(0, word("x"))
	if again := g.Add(0, word("x")); again != x || g.Len() != 1 {
		t.Errorf("x is %d and %d", x, again)
	}
	if other := g.Add(1, word("x")); other == x || g.Len() != 2 {
		t.Error("the x of both sides is one")
	}
	f := g.Add(1, word("F", word("x"), word("C"), word("x"), word("C")))
	args := g.At(f).Args
	if g.Len() != 5 || len(args) != 4 || args[0] != args[2] || args[1] == args[3] {
		t.Errorf("%d nodes, %v", g.Len(), args)
	}
	if g.Add(1, word("C")) == g.Add(1, word("C")) {
		t.Error("one C is the other one")
	}
}

func TestNodesTellWhatTheyAre(t *testing.T) {
	g := words.NewGraph()
	x, y, c := g.Add(0, word("x")), g.Add(0, word("y")), g.Add(0, word("F", word("y")))
	if n := g.At(x); !n.IsVariable() || n.Name != "x" || n.Args != nil {
		t.Errorf("%v", n)
	}
	if n := g.At(c); n.IsVariable() || n.Name != "F" || !slices.Equal(n.Args, []int{y}) {
		t.Errorf("%v", n)
	}
	if g.At(x).Class == g.At(y).Class {
		t.Error("x and y are one class")
	}
	g.Merge(x, c)
	if g.At(x).Class != g.At(c).Class || g.At(x).Name != "F" || g.At(x).IsVariable() {
		t.Errorf("%v and %v", g.At(x), g.At(c))
	}
	isAt(t, "x", g, x, word("F", word("y")))
}

// TestMergedNodesAreTheSame: whichever of the two is told first.
func TestMergedNodesAreTheSame(t *testing.T) {
	v, w := word("G", word("x"), word("F", word("x"))), word("G", word("C"), word("y"))
	want := word("G", word("C"), word("F", word("C")))
	for _, turned := range []bool{false, true} {
		g := words.NewGraph()
		a, b := g.Add(0, v), g.Add(1, w)
		if turned {
			g.Merge(b, a)
		} else {
			g.Merge(a, b)
		}
		isAt(t, "a", g, a, want)
		isAt(t, "b", g, b, want)
		if g.At(a).Class != g.At(b).Class {
			t.Error("they are two classes")
		}
		g.Merge(a, b)
		isAt(t, "a, once more", g, a, want)
	}
}

// TestVariablesOfOneClass: they are one thing, and become something together.
func TestVariablesOfOneClass(t *testing.T) {
	g := words.NewGraph()
	x, y, z := g.Add(0, word("x")), g.Add(1, word("x")), g.Add(0, word("z"))
	g.Merge(x, y)
	g.Merge(z, y)
	if g.At(x).Class != g.At(z).Class || !g.At(y).IsVariable() {
		t.Error("they are no class of variables")
	}
	g.Merge(y, g.Add(1, word("C")))
	for _, at := range []int{x, y, z} {
		isAt(t, "a variable", g, at, word("C"))
	}
}

func TestMergeClashes(t *testing.T) {
	for what, l := range map[string][2]api.Word{
		"names":               {word("C"), word("D")},
		"numbers of Args":     {word("F"), word("F", word("C"))},
		"numbers, turned":     {word("F", word("C"), word("C")), word("F", word("C"))},
		"names within":        {word("G", word("x"), word("C")), word("G", word("x"), word("D"))},
		"one to be two":       {word("G", word("x"), word("x")), word("G", word("C"), word("D"))},
		"a name and a number": {word("G", word("x"), word("x")), word("G", word("C"), word("C", word("y")))},
	} {
		g := words.NewGraph()
		clashes(t, what, func() { g.Merge(g.Add(0, l[0]), g.Add(1, l[1])) })
	}
	clashes(t, "Clash", words.Clash)
}

// TestWordsInThemselves: Merge ends, and Sizes tells it, wherever the ring is.
func TestWordsInThemselves(t *testing.T) {
	for what, l := range map[string][]api.Word{
		"x in itself":         {word("x"), word("F", word("x"))},
		"two in each other":   {word("x"), word("F", word("y")), word("y"), word("F", word("x"))},
		"within":              {word("G", word("x"), word("y")), word("G", word("F", word("y")), word("F", word("x")))},
		"two rings":           {word("x"), word("F", word("x")), word("y"), word("F", word("y")), word("x"), word("y")},
		"beside what is none": {word("G", word("z"), word("x")), word("G", word("C"), word("F", word("x")))},
		"a ring and a number": {word("x"), word("F", word("x")), word("y"), word("F", word("F", word("y"))), word("x"), word("y")},
		"deeper":              {word("x"), nested(50, word("G", word("C"), word("x")))},
	} {
		g := words.NewGraph()
		if f := stop.Caught(func() {
			for i := 0; i < len(l); i += 2 {
				g.Merge(g.Add(0, l[i]), g.Add(0, l[i+1]))
			}
		}); f != (api.Fault{}) {
			t.Errorf("%s: Merge: %v", what, f)
		}
		clashes(t, what, func() { g.Sizes(1000) })
	}
	g := words.NewGraph()
	g.Merge(g.Add(0, word("x")), g.Add(1, word("F", word("x"))))
	if f := stop.Caught(func() { g.Sizes(1000) }); f != (api.Fault{}) {
		t.Errorf("x of one side is in x of the other: %v", f)
	}
}

func TestSizes(t *testing.T) {
	g := words.NewGraph()
	x, w := g.Add(0, word("x")), g.Add(0, word("G", word("x"), word("F", word("x"))))
	s := g.Sizes(1000)
	if s.Of(x) != 1 || s.Of(w) != 4 {
		t.Errorf("%d and %d", s.Of(x), s.Of(w))
	}
	g.Merge(x, g.Add(0, word("G", word("y"), word("C"))))
	for most, want := range map[int][2]int{1000: {3, 8}, 8: {3, 8}, 7: {3, 8}, 6: {3, 7}, 3: {3, 4}, 2: {3, 3}, 1: {2, 2}} {
		s := g.Sizes(most)
		if got := [2]int{s.Of(x), s.Of(w)}; got != want {
			t.Errorf("up to %d: %v, want %v", most, got, want)
		}
	}
}

// TestLargeSizes: what would be far too large to be written has a size, soon.
func TestLargeSizes(t *testing.T) {
	g := words.NewGraph()
	name := func(n int) api.Word { return word(string(rune('a'+n/26)) + string(rune('a'+n%26))) }
	for n := range 300 {
		g.Merge(g.Add(0, name(n+1)), g.Add(0, word("G", name(n), name(n))))
	}
	s := g.Sizes(1 << 40)
	for n, want := range map[int]int{0: 1, 1: 3, 10: 1<<11 - 1, 39: 1<<40 - 1, 40: 1<<40 + 1, 300: 1<<40 + 1} {
		if got := s.Of(g.Add(0, name(n))); got != want {
			t.Errorf("%d levels: %d, want %d", n, got, want)
		}
	}
}

// TestBound: those of a side that are no longer themselves. Of a class of variables all but one are bound.
func TestBound(t *testing.T) {
	g := words.NewGraph()
	for _, l := range [][2]string{{"x", "C"}, {"y", "z"}, {"u", "u"}} {
		g.Merge(g.Add(0, word(l[0])), g.Add(0, word(l[1])))
	}
	g.Merge(g.Add(1, word("v")), g.Add(1, word("D")))
	for side, want := range [][]string{{"x", "y z"}, {"v"}, nil} {
		var got []string
		for name, at := range g.Bound(side) {
			w := became(g, at)
			if name == "y" || name == "z" {
				if w.Name == name || len(w.Args) > 0 {
					t.Errorf("%s is %v", name, w)
				}
				name = "y z"
			}
			got = append(got, name)
		}
		slices.Sort(got)
		if !slices.Equal(got, want) {
			t.Errorf("side %d: %q, want %q", side, got, want)
		}
	}
	for range g.Bound(0) {
		break
	}
}

// TestWordsHaveTheNamesThatAreTold: for each variable what is told of its class; big names are as they are, in new memory.
func TestWordsHaveTheNamesThatAreTold(t *testing.T) {
	g := words.NewGraph()
	big := string([]byte("Function"))
	at := g.Add(0, word(big, word("x"), word("y"), word("z"), word("C")))
	g.Merge(g.Add(0, word("x")), g.Add(0, word("z")))
	classes := map[int]string{}
	w := g.Word(at, func(n words.Node) string {
		if !n.IsVariable() {
			t.Errorf("%v is asked for", n)
		}
		if classes[n.Class] == "" {
			classes[n.Class] = string(rune('a' + len(classes)))
		}
		return classes[n.Class]
	})
	if want := word("Function", word("a"), word("b"), word("a"), word("C")); !reflect.DeepEqual(w, want) {
		t.Errorf("%v, want %v", w, want)
	}
	if unsafe.StringData(w.Name) == unsafe.StringData(big) {
		t.Error("a name is kept")
	}
	other := became(g, at)
	if &other.Args[0] == &w.Args[0] {
		t.Error("memory is shared")
	}
}
