package between_test

import (
	"math/rand"
	"testing"

	"sequent/api"
	"sequent/between"
)

// TestInterpolate: where more than one formula would do, the one that says most is wanted, as the program answers it.
func TestInterpolate(t *testing.T) {
	for _, c := range []struct{ what, f, g, want string }{
		{"the chapter's", "p & q", "p | r", "p"},
		{"one name", "p", "p", "p"},
		{"not a name", "~p", "~p", "~p"},
		{"f is never true", "p & ~p", "p", "0"},
		{"f is never true, with other names", "p & ~p", "q", "0"},
		{"f is false", "0", "p", "0"},
		{"g is always true", "p", "q | ~q", "1"},
		{"g is true", "p", "1", "1"},
		{"no names at all", "1", "1", "1"},
		{"false makes false", "0", "0", "0"},
		{"both are always true, with no name together", "p | ~p", "q -> q", "1"},
		{"f says something of all its names", "p & q & r", "p | q | r", "p & q & r"},
		{"a chain", "p & (p -> q)", "(q -> r) -> r", "q"},
		{"the other name decides", "(p -> q) & (~p -> r)", "q | r", "q | r"},
		{"the same in one name but for the others", "same & p", "same | q", "same"},
	} {
		h, want := interpolated(t, read(t, c.f), read(t, c.g)), read(t, c.want)
		if !sameRows(h, want, namesIn(h, want)) {
			t.Errorf("%s: %s, want %s", c.what, text(h), c.want)
		}
	}
}

// sameRows: are f and g true in the same rows of names?
func sameRows(f, g api.Formula, names []string) bool {
	l, m := column(f, names), column(g, names)
	return makes(l, m) && makes(m, l)
}

// TestNothingBetween has formulas of which the first does not make the second.
func TestNothingBetween(t *testing.T) {
	for _, c := range [][2]string{
		{"p", "q"}, {"1", "0"}, {"1", "p"}, {"p", "0"}, {"p | q", "p"}, {"p", "p & q"}, {"p -> q", "q -> p"},
		{"p", "~p"}, {"a & b & c & d & e", "a & b & c & d & f"}, {"a | b | c | d | e | f", "a | b | c | d | e"},
	} {
		h, e := between.Interpolate(read(t, c[0]), read(t, c[1]))
		if e != fault(api.ErrFalse, 0) {
			t.Errorf("between %s and %s: fault %v", c[0], c[1], e)
		}
		isNothing(t, c[0], h)
	}
}

// TestInterpolateOneRow has formulas with but one row that speaks against them, wherever it is.
func TestInterpolateOneRow(t *testing.T) {
	names := words("a b c d e f")
	for row := range 64 {
		l := make([]bool, 64)
		l[row] = true
		one := rowsOf(names, l)
		interpolated(t, node(api.FTrue), nots(1, one))
		interpolated(t, one, node(api.FFalse))
		interpolated(t, one, one)
	}
}

// TestInterpolateSmall goes through all pairs of small formulas.
func TestInterpolateSmall(t *testing.T) {
	all := smallFormulas(4, "p", "q", "r")
	for _, f := range all {
		for _, g := range all {
			interpolated(t, f, g)
		}
	}
}

// TestInterpolateChanced has an f that makes g, mostly with names that the other one has not.
func TestInterpolateChanced(t *testing.T) {
	chance := rand.New(rand.NewSource(7))
	pools := [][2][]string{
		{words("a b c d"), words("c d e f")},
		{words("a b c"), words("d e f")},
		{words("a b c d e"), words("a b c d f")},
		{words("a b c d e f"), words("b e")},
		{words("b e"), words("a b c d e f")},
		{words("a b c d e f"), words("a b c d e f")},
	}
	found := 0
	for at := range 12000 {
		pool := pools[at%len(pools)]
		f, g := chanced(chance, 1+chance.Intn(30), pool[0]), chanced(chance, 1+chance.Intn(30), pool[1])
		switch chance.Intn(3) {
		case 0:
			g = widened(f, g)
		case 1:
			f = nots(1, widened(nots(1, g), nots(1, f)))
		}
		if nodesIn(f) > api.MaxNodes || nodesIn(g) > api.MaxNodes {
			continue
		}
		if h := interpolated(t, f, g); h.Kind != 0 {
			found++
		}
	}
	if found < 4000 {
		t.Errorf("only %d pairs with something between", found)
	}
}

// widened is g or what f says of g's names, so that f makes it.
func widened(f, g api.Formula) api.Formula {
	own := namesIn(f)
	common := both(own, namesIn(g))
	can := canBe(column(f, own), digitsOf(own, common))
	l := make([]bool, 1<<len(common))
	for row := range can {
		at := 0
		for i, s := range common {
			if row&digitsOf(own, []string{s}) != 0 {
				at |= 1 << i
			}
		}
		l[at] = can[row]
	}
	return node(api.FOr, g, rowsOf(common, l))
}
