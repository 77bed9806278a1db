package between_test

import (
	"strings"
	"testing"

	"sequent/api"
	"sequent/between"
)

// notPlain are formulas, with the fault that each call tells of them first.
func notPlain() []struct {
	what string
	f    api.Formula
	want api.Fault
} {
	p := name("p")
	box, dia := node(api.FBox, p), node(api.FDia, p)
	return []struct {
		what string
		f    api.Formula
		want api.Fault
	}{
		{"zero formula", api.Formula{}, fault(api.ErrKind, 0)},
		{"no such kind", nots(1, node(10)), fault(api.ErrKind, 1)},
		{"kind below zero", node(api.FAnd, p, node(-1<<63)), fault(api.ErrKind, 2)},
		{"and of one", nots(1, node(api.FAnd, p)), fault(api.ErrSize, 1)},
		{"name with a kid", api.Formula{Kind: api.FVar, Name: "p", Kids: []api.Formula{p}}, fault(api.ErrSize, 0)},
		{"no name", node(api.FOr, p, name("P")), fault(api.ErrName, 2)},
		{"long name", name("abcdefghi"), fault(api.ErrName, 0)},
		{"name of what has none", api.Formula{Kind: api.FTrue, Name: "p"}, fault(api.ErrName, 0)},
		{"one node too many", nots(api.MaxNodes, p), fault(api.ErrMany, 0)},
		{"endless", endless(), fault(api.ErrMany, 0)},
		{"box", box, fault(api.ErrKind, 0)},
		{"diamond behind a whole kid", node(api.FThen, node(api.FOr, p, nots(1, p)), dia), fault(api.ErrKind, 5)},
		{"diamond ahead of box", node(api.FAnd, nots(1, dia), box), fault(api.ErrKind, 2)},
		{"box at the last node but one", nots(api.MaxNodes-2, box), fault(api.ErrKind, api.MaxNodes-2)},
		{"fault of Check behind a box", node(api.FAnd, box, name("")), fault(api.ErrName, 3)},
		{"too many nodes behind a box", node(api.FAnd, box, nots(api.MaxNodes, p)), fault(api.ErrMany, 0)},
		{"box behind too many names", node(api.FAnd, allOf(words("a b c d e f g")), box), fault(api.ErrKind, 14)},
		{"too many nodes and names", node(api.FAnd, allOf(words("a b c d e f g")), nots(api.MaxNodes, p)), fault(api.ErrMany, 0)},
	}
}

// noNames are texts that are no name.
func noNames() []string {
	return []string{"", "P", "pQ", "abcdefghi", "p1", "1", "p q", " p", "p\n", "\x00", "`", "{", "é", "\xff", strings.Repeat("a", 1<<20)}
}

func refusedBetween(t *testing.T, what string, f, g api.Formula, want api.Fault) {
	t.Helper()
	h, e := between.Interpolate(f, g)
	if e != want {
		t.Errorf("%s: Interpolate: fault %v, want %v", what, e, want)
	}
	isNothing(t, what, h)
}

func refusedProject(t *testing.T, what string, f api.Formula, names []string, want api.Fault) {
	t.Helper()
	h, e := between.Project(f, names)
	if e != want {
		t.Errorf("%s: Project: fault %v, want %v", what, e, want)
	}
	isNothing(t, what, h)
}

func refusedDefine(t *testing.T, what string, f api.Formula, s string, want api.Fault) {
	t.Helper()
	h, e := between.Define(f, s)
	if e != want {
		t.Errorf("%s: Define: fault %v, want %v", what, e, want)
	}
	isNothing(t, what, h)
}

// TestFormulasFaultsComeFirst hands over what is wrong, too: of that nothing is to be told.
func TestFormulasFaultsComeFirst(t *testing.T) {
	lists := [][]string{nil, {"p"}, {"P"}, {"q", "q"}, make([]string, api.MaxList+1)}
	plain := []api.Formula{read(t, "p"), read(t, "1"), read(t, "0"), allOf(words("a b c d e f g")), nots(api.MaxNodes-1, name("q"))}
	for _, c := range notPlain() {
		for _, l := range lists {
			refusedProject(t, c.what, c.f, l, c.want)
		}
		for _, s := range append(noNames(), "p", "q") {
			refusedDefine(t, c.what, c.f, s, c.want)
		}
		for _, g := range plain {
			refusedBetween(t, c.what+" ahead", c.f, g, c.want)
			refusedBetween(t, c.what+" behind", g, c.f, c.want)
		}
		for _, d := range notPlain() {
			refusedBetween(t, c.what+" ahead of "+d.what, c.f, d.f, c.want)
		}
	}
}

func TestTooManyNames(t *testing.T) {
	seven, six := allOf(words("a b c d e f g")), allOf(words("a b c d e f"))
	never := node(api.FAnd, seven, node(api.FFalse))
	for _, c := range []struct {
		what string
		f, g api.Formula
	}{
		{"seven ahead", seven, read(t, "1")},
		{"seven behind", read(t, "0"), seven},
		{"seven in both", seven, seven},
		{"three and four", allOf(words("a b c")), allOf(words("d e f g"))},
		{"six and one", six, name("g")},
		{"one and six", name("g"), six},
		{"six and six", six, allOf(words("b c d e f g"))},
		{"seven, and never true", never, read(t, "0")},
		{"seven, and not made", read(t, "1"), never},
	} {
		refusedBetween(t, c.what, c.f, c.g, fault(api.ErrMany, 0))
	}
	for _, f := range []api.Formula{seven, never, nots(1, never)} {
		for _, l := range [][]string{nil, {"a"}, words("a b c d e f g"), {"P"}, {"a", "P"}, make([]string, api.MaxList+1)} {
			refusedProject(t, "seven", f, l, fault(api.ErrMany, 0))
		}
		for _, s := range append(noNames(), "a", "g", "z") {
			refusedDefine(t, "seven", f, s, fault(api.ErrMany, 0))
		}
	}
}

// TestJustEnoughNames has MaxNames of them together. What is asked for is not counted.
func TestJustEnoughNames(t *testing.T) {
	six := allOf(words("a b c d e f"))
	none := node(api.FAnd, six, node(api.FFalse))
	interpolated(t, six, six)
	interpolated(t, six, read(t, "a | (b -> c)"))
	interpolated(t, name("f"), read(t, "a | (b -> c) | ~(d & e) | f"))
	interpolated(t, allOf(words("a b c")), allOf(words("d e f")))
	interpolated(t, none, read(t, "c"))
	projected(t, six, words("a b c d e f"))
	projected(t, six, words("g h i j k l m n o p"))
	if _, found := defined(t, six, "a"); !found {
		t.Errorf("a of six is not told")
	}
	if _, found := defined(t, six, "g"); found {
		t.Errorf("a name that is not there is told")
	}
	if _, found := defined(t, none, "g"); !found {
		t.Errorf("a name that is not there is not told, where all goes")
	}
}

// TestProjectFaults looks at faults of names alone.
func TestProjectFaults(t *testing.T) {
	for _, f := range []api.Formula{read(t, "p & q"), read(t, "0"), allOf(words("a b c d e f"))} {
		for _, bad := range noNames() {
			refusedProject(t, "alone", f, []string{bad}, fault(api.ErrName, 0))
			refusedProject(t, "behind names", f, []string{"p", "p", "z", bad}, fault(api.ErrName, 3))
			refusedProject(t, "ahead of another", f, []string{"q", bad, "Q", bad}, fault(api.ErrName, 1))
			long := make([]string, api.MaxList)
			for i := range long {
				long[i] = "q"
			}
			long[api.MaxList-1] = bad
			refusedProject(t, "the last of as many as may be", f, long, fault(api.ErrName, api.MaxList-1))
			refusedProject(t, "too many, and one is none", f, append(long, "q"), fault(api.ErrMany, 0))
		}
		long := make([]string, api.MaxList+1)
		for i := range long {
			long[i] = "p"
		}
		refusedProject(t, "one too many", f, long, fault(api.ErrMany, 0))
		projected(t, f, long[:api.MaxList])
		refusedProject(t, "very many", f, make([]string, 1<<20), fault(api.ErrMany, 0))
	}
}

// TestDefineFaults: what is no name goes ahead of what has no formula.
func TestDefineFaults(t *testing.T) {
	for _, text := range []string{"p | r", "p & ~p", "0", "1", "p", "a & b & c & d & e & f"} {
		for _, bad := range noNames() {
			refusedDefine(t, text, read(t, text), bad, fault(api.ErrName, 0))
		}
	}
	defined(t, read(t, "abcdefgh & p"), "abcdefgh")
}
