package between_test

import (
	"math/rand"
	"reflect"
	"slices"
	"strings"
	"testing"

	"sequent/api"
	"sequent/between"
	"sequent/formula"
)

func fault(code, at int) api.Fault { return api.Fault{Code: code, At: at} }

func name(s string) api.Formula { return api.Formula{Kind: api.FVar, Name: s} }

func node(kind int, kids ...api.Formula) api.Formula {
	return api.Formula{Kind: kind, Kids: kids}
}

// nots is f below so many FNot.
func nots(n int, f api.Formula) api.Formula {
	for range n {
		f = node(api.FNot, f)
	}
	return f
}

// endless holds itself.
func endless() api.Formula {
	kids := make([]api.Formula, 1)
	kids[0] = api.Formula{Kind: api.FNot, Kids: kids}
	return kids[0]
}

func read(t *testing.T, text string) api.Formula {
	t.Helper()
	f, e := formula.Parse(text)
	if e != (api.Fault{}) {
		t.Fatalf("Parse(%q): %v", text, e)
	}
	return f
}

func text(f api.Formula) string {
	s, _ := formula.Print(f)
	return s
}

// words are the names in a text; none in "".
func words(text string) []string { return strings.Fields(text) }

// allOf joins formulas of these names by FAnd.
func allOf(names []string) api.Formula {
	f := name(names[0])
	for _, s := range names[1:] {
		f = node(api.FAnd, f, name(s))
	}
	return f
}

func nodesIn(f api.Formula) int {
	n := 1
	for _, k := range f.Kids {
		n += nodesIn(k)
	}
	return n
}

// namesIn are those of some formulas, each once, rising: the second reckoning.
func namesIn(l ...api.Formula) []string {
	var all []string
	for _, f := range l {
		if f.Kind == api.FVar {
			all = append(all, f.Name)
		}
		all = append(all, namesIn(f.Kids...)...)
	}
	slices.Sort(all)
	return slices.Compact(all)
}

// both are the names in two lists.
func both(l, m []string) []string {
	return slices.DeleteFunc(slices.Clone(l), func(s string) bool { return !slices.Contains(m, s) })
}

// column tells of each row of names whether f is true there, node by node and all rows at once: another way than the program's.
func column(f api.Formula, names []string) []bool {
	out := make([]bool, 1<<len(names))
	var kids [2][]bool
	for i, k := range f.Kids {
		kids[i] = column(k, names)
	}
	for row := range out {
		switch f.Kind {
		case api.FVar:
			out[row] = row>>slices.Index(names, f.Name)&1 == 1
		case api.FTrue:
			out[row] = true
		case api.FNot:
			out[row] = !kids[0][row]
		case api.FAnd:
			out[row] = kids[0][row] && kids[1][row]
		case api.FOr:
			out[row] = kids[0][row] || kids[1][row]
		case api.FThen:
			out[row] = !kids[0][row] || kids[1][row]
		}
	}
	return out
}

// makes: is m true in all rows in which l is?
func makes(l, m []bool) bool {
	for row := range l {
		if l[row] && !m[row] {
			return false
		}
	}
	return true
}

// digitsOf are the digits of the rows' numbers that belong to some of names.
func digitsOf(names, some []string) int {
	digits := 0
	for i, s := range names {
		if slices.Contains(some, s) {
			digits |= 1 << i
		}
	}
	return digits
}

// canBe tells of each row whether l is true in one with the same digits of these.
func canBe(l []bool, digits int) []bool {
	seen := make([]bool, len(l))
	for row, is := range l {
		seen[row&digits] = seen[row&digits] || is
	}
	out := make([]bool, len(l))
	for row := range out {
		out[row] = seen[row&digits]
	}
	return out
}

// rowsOf is a formula that is true in just these rows of names: all that is true, row by row.
func rowsOf(names []string, l []bool) api.Formula {
	f := node(api.FFalse)
	for row, is := range l {
		if !is {
			continue
		}
		one := node(api.FTrue)
		for i, s := range names {
			one = node(api.FAnd, one, nots(1-row>>i&1, name(s)))
		}
		f = node(api.FOr, f, one)
	}
	return f
}

// odd is true where an odd number of the names is.
func odd(names []string) api.Formula {
	if len(names) == 1 {
		return name(names[0])
	}
	half := len(names) / 2
	f, g := odd(names[:half]), odd(names[half:])
	return node(api.FThen, node(api.FThen, f, g), nots(1, node(api.FThen, g, f)))
}

// same is true where f and g are both true or both false.
func same(f, g api.Formula) api.Formula {
	return node(api.FAnd, node(api.FThen, f, g), node(api.FThen, g, f))
}

// chanced is a formula of about so many nodes, of some of the names.
func chanced(chance *rand.Rand, nodes int, names []string) api.Formula {
	if nodes <= 1 {
		switch at := chance.Intn(len(names)*4 + 2); at {
		case 0:
			return node(api.FTrue)
		case 1:
			return node(api.FFalse)
		default:
			return name(names[at%len(names)])
		}
	}
	if nodes == 2 || chance.Intn(5) == 0 {
		return nots(1, chanced(chance, nodes-1, names))
	}
	left := 1 + chance.Intn(nodes-2)
	kind := api.FAnd + chance.Intn(3)
	return node(kind, chanced(chance, left, names), chanced(chance, nodes-1-left, names))
}

// smallFormulas are all plain ones of so many nodes at most, of the names, true and false.
func smallFormulas(most int, names ...string) []api.Formula {
	bySize := make([][]api.Formula, most+1)
	bySize[1] = []api.Formula{node(api.FTrue), node(api.FFalse)}
	for _, s := range names {
		bySize[1] = append(bySize[1], name(s))
	}
	var all []api.Formula
	for size := 1; size <= most; size++ {
		for _, f := range bySize[size-1] {
			bySize[size] = append(bySize[size], nots(1, f))
		}
		for left := 1; left < size-1; left++ {
			for _, f := range bySize[left] {
				for _, g := range bySize[size-1-left] {
					bySize[size] = append(bySize[size], node(api.FAnd, f, g), node(api.FOr, f, g), node(api.FThen, f, g))
				}
			}
		}
		all = append(all, bySize[size]...)
	}
	return all
}

// isFormula looks that what is answered is plain, and has no names but these: at most MaxNodes nodes, as chapter 2's word says, which are fewer than MaxText.
func isFormula(t *testing.T, what string, h api.Formula, names []string) {
	t.Helper()
	if n := nodesIn(h); n > api.MaxText {
		t.Fatalf("%s: %d nodes", what, n)
	}
	if e := formula.Check(h); e != (api.Fault{}) {
		t.Fatalf("%s: what is answered is no formula: %v", what, e)
	}
	if hasModal(h) {
		t.Fatalf("%s: %s is not plain", what, text(h))
	}
	if own := namesIn(h); len(both(own, names)) != len(own) {
		t.Fatalf("%s: %s has other names than %v", what, text(h), names)
	}
}

func hasModal(f api.Formula) bool {
	return f.Kind == api.FBox || f.Kind == api.FDia || slices.ContainsFunc(f.Kids, hasModal)
}

// isNothing looks that a formula is zero, beside a fault.
func isNothing(t *testing.T, what string, h api.Formula) {
	t.Helper()
	if !reflect.DeepEqual(h, api.Formula{}) {
		t.Errorf("%s: %v beside a fault", what, h)
	}
}

// The calls below look at all that is answered: of the fault, whether it is the one that has to be told.

func interpolated(t *testing.T, f, g api.Formula) api.Formula {
	t.Helper()
	what := "between " + text(f) + " and " + text(g)
	names := namesIn(f, g)
	first, last := column(f, names), column(g, names)
	h, e := between.Interpolate(f, g)
	if !makes(first, last) {
		if e != fault(api.ErrFalse, 0) {
			t.Fatalf("%s: fault %v", what, e)
		}
		isNothing(t, what, h)
		return h
	}
	if e != (api.Fault{}) {
		t.Fatalf("%s: fault %v", what, e)
	}
	isFormula(t, what, h, both(namesIn(f), namesIn(g)))
	if mid := column(h, names); !makes(first, mid) || !makes(mid, last) {
		t.Fatalf("%s: %s", what, text(h))
	}
	return h
}

func projected(t *testing.T, f api.Formula, names []string) api.Formula {
	t.Helper()
	what := text(f) + " to " + strings.Join(names, " ")
	h, e := between.Project(f, names)
	if e != (api.Fault{}) {
		t.Fatalf("%s: fault %v", what, e)
	}
	own := namesIn(f)
	isFormula(t, what, h, both(own, names))
	want := canBe(column(f, own), digitsOf(own, names))
	if !slices.Equal(column(h, own), want) {
		t.Fatalf("%s: %s", what, text(h))
	}
	return h
}

func defined(t *testing.T, f api.Formula, s string) (h api.Formula, found bool) {
	t.Helper()
	what := s + " of " + text(f)
	h, e := between.Define(f, s)
	names := namesIn(f, name(s))
	own := column(f, names)
	if isLeftOpen(own, digitsOf(names, []string{s})) {
		if e != fault(api.ErrNone, 0) {
			t.Fatalf("%s: fault %v", what, e)
		}
		isNothing(t, what, h)
		return h, false
	}
	if e != (api.Fault{}) {
		t.Fatalf("%s: fault %v", what, e)
	}
	isFormula(t, what, h, slices.DeleteFunc(namesIn(f), func(n string) bool { return n == s }))
	this, that := column(h, names), column(name(s), names)
	for row, is := range own {
		if is && this[row] != that[row] {
			t.Fatalf("%s: %s in the row %d", what, text(h), row)
		}
	}
	return h, true
}

// isLeftOpen: are there two rows that differ in this digit alone, in both of which it is true?
func isLeftOpen(l []bool, digit int) bool {
	for row, is := range l {
		if is && l[row^digit] {
			return true
		}
	}
	return false
}
