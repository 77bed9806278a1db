package games_test

import (
	"math/rand"
	"slices"
	"testing"

	"sequent/api"
	"sequent/first"
	"sequent/games"
)

// text is how Print writes e.
func text(t *testing.T, e api.Expr) string {
	t.Helper()
	s, f := first.Print(e)
	if f != (api.Fault{}) {
		t.Fatalf("Print(%v): %v", e, f)
	}
	return s
}

// TestToldByOnePredicate: each way in which two things can be told apart, in both directions. Where the words are the only right ones, they are these.
func TestToldByOnePredicate(t *testing.T) {
	never, always := func(u, v int) bool { return false }, func(u, v int) bool { return true }
	up, down, but := func(u, v int) bool { return u <= v }, func(u, v int) bool { return u >= v }, func(u, v int) bool { return u != v }
	for _, c := range []struct {
		a, b api.Structure
		n    int
		want string
	}{
		{things(1, plain("Q", true)), things(2, plain("Q", false)), 0, "Q"},
		{things(1, plain("Q", false)), things(2, plain("Q", true)), 0, "~Q"},
		{things(2, plain("P", true), plain("Q", true)), things(2, plain("P", true), plain("Q", false)), 0, "Q"},
		{things(1, class("P", 1, 0)), things(1, class("P", 1)), 1, ""},
		{things(2, class("P", 2, 1)), things(2, class("P", 2)), 1, "?a P(a)"},
		{things(2, class("P", 2)), things(2, class("P", 2, 1)), 1, "!a ~P(a)"},
		{things(2, class("P", 2, 0, 1)), things(2, class("P", 2, 1)), 1, "!a P(a)"},
		{things(2, class("P", 2, 1)), things(2, class("P", 2, 0, 1)), 1, "?a ~P(a)"},
		{things(2, relation("R", 2, up)), things(2, relation("R", 2, never)), 1, ""},
		{things(2, relation("R", 2, but)), things(2, relation("R", 2, always)), 1, ""},
		{things(2, relation("R", 2, up)), things(2, relation("R", 2, always)), 2, ""},
		{things(2, relation("R", 2, always)), things(2, relation("R", 2, down)), 2, "!a !b R(a, b)"},
		{things(2, relation("R", 2, but)), things(2, relation("R", 2, never)), 2, "!a ?b R(a, b)"},
		{things(1), things(2), 2, "!a !b a = b"},
		{things(2), things(1), 2, ""},
	} {
		e := told(t, c.a, c.b, c.n)
		told(t, c.b, c.a, c.n)
		if c.want != "" && text(t, e) != c.want {
			t.Errorf("Tell(%v, %v, %d): %s, want %s", c.a, c.b, c.n, text(t, e), c.want)
		}
	}
}

// TestToldWithMoreRounds: an expression with fewer quantifiers is right where more are allowed, and there is none where too few are.
func TestToldWithMoreRounds(t *testing.T) {
	chance := rand.New(rand.NewSource(7))
	for range 100 {
		a, b := likeness(chance, 3+chance.Intn(4), 2, vocabulary()...)
		for n := range 5 {
			if wins(t, a, b, n) {
				notTold(t, a, b, n)
			} else {
				told(t, a, b, n)
			}
		}
	}
}

// TestToldOfSmallStructures: of all with one predicate of two places and at most two things, and of some with three.
func TestToldOfSmallStructures(t *testing.T) {
	chance := rand.New(rand.NewSource(8))
	l := slices.Concat(allStructures(1, 2), allStructures(2, 2))
	three := allStructures(3, 2)
	for range 30 {
		l = append(l, three[chance.Intn(len(three))])
	}
	for n := range 5 {
		for _, a := range l {
			for _, b := range l {
				if _, f := games.Tell(a, b, n); f != (api.Fault{}) {
					notTold(t, a, b, n)
					asked(t, a, b, n, saysTheSame(a, b, n))
				} else {
					told(t, a, b, n)
				}
			}
		}
	}
}

// TestToldInFewWords: what is told of orders in a row and of rings is small enough for the other layers.
func TestToldInFewWords(t *testing.T) {
	var l []api.Structure
	for i := 1; i <= 8; i++ {
		l = append(l, row(i))
	}
	l = append(l, rings(8), rings(7), rings(4, 4), rings(5, 3), rings(3, 3), rings(6), rings(1, 3, 4))
	for i, a := range l {
		for _, b := range l[:i] {
			if e, f := games.Tell(a, b, 4); f == (api.Fault{}) {
				sameFault(t, text(t, e), first.Check(e), api.Fault{})
				told(t, a, b, 4)
			}
		}
	}
}

// TestNamesOfPredicates: names that are long, or look like variables' in part, are told whole.
func TestNamesOfPredicates(t *testing.T) {
	for _, name := range []string{"A", "Z", "Aa", "Abcdefgh", "ABCDEFGH", "Azazazaz"} {
		asked(t, things(2, plain(name, true)), things(2, plain(name, false)), 0, false)
		asked(t, things(2, class(name, 2, 1)), things(2, class(name, 2)), 1, false)
		asked(t, things(2, class("K", 2, 1), relation(name, 2, func(u, v int) bool { return u < v })), things(2, class("K", 2, 1), relation(name, 2, func(u, v int) bool { return u > v })), 2, false)
	}
}
