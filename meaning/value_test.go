package meaning_test

import (
	"fmt"
	"math/rand"
	"strings"
	"testing"

	"sequent/api"
	"sequent/meaning"
)

// valued asks Value, where nothing is wrong.
func valued(t *testing.T, s api.Structure, e api.Expr, names []string, values []int) bool {
	t.Helper()
	is, f := meaning.Value(s, e, names, values)
	if f != (api.Fault{}) {
		t.Fatalf("%s in %v, %v %v: %v", text(e), s, names, values, f)
	}
	return is
}

// order has three things in a row: R tells which is less. C is the least of them, F the next one (the last one's is the last), P the one in the middle, Q is true.
func order() api.Structure {
	return api.Structure{
		N:     3,
		Funs:  []api.Fun{fun("C", 0, 0), fun("F", 1, 1, 2, 2), fun("G", 2, 0, 1, 2, 1, 1, 2, 2, 2, 2)},
		Preds: []api.Pred{predicate("Q", 0, 1), predicate("P", 1, 0, 1, 0), predicate("R", 2, 0, 0, 0, 1, 0, 0, 1, 1, 0)},
	}
}

func TestValueInAnOrder(t *testing.T) {
	for s, want := range map[string]bool{
		"1": true, "0": false, "Q": true, "~Q": false, "~0": true,
		"Q & Q": true, "Q & 0": false, "0 & Q": false, "0 & 0": false,
		"Q | Q": true, "Q | 0": true, "0 | Q": true, "0 | 0": false,
		"Q -> Q": true, "Q -> 0": false, "0 -> Q": true, "0 -> 0": true,
		"C = C": true, "F(C) = C": false, "F(F(C)) = F(F(F(C)))": true, "G(C, F(C)) = F(C)": true, "G(F(F(C)), F(C)) = F(C)": false,
		"P(C)": false, "P(F(C))": true, "P(F(F(C)))": false,
		"R(C, F(C))": true, "R(F(C), C)": false, "R(C, C)": false,
		"!x P(x)": false, "?x P(x)": true, "!x 1": true, "!x 0": false, "?x 1": true, "?x 0": false,
		"!x x = x": true, "?x ~x = x": false,
		"!x ?y R(x, y)": false, "?x !y R(x, y)": false, "!x ?y (R(x, y) | x = y)": true, "?x !y (R(x, y) | x = y)": true,
		"?y !x (R(x, y) | x = y)": true, "!x !y !z (R(x, y) & R(y, z) -> R(x, z))": true,
		"!x !y (R(x, y) | R(y, x))": false, "!x !y (R(x, y) | R(y, x) | x = y)": true,
		"!x (x = F(x) -> ~?y R(x, y))": true, "!x (~?y R(x, y) -> x = F(x))": true, "!x R(x, F(x))": false,
		"!x !y G(x, y) = G(y, x)": true, "!x !y (G(x, y) = y -> R(x, y) | x = y)": true,
		"?x ?y ?z (R(x, y) & R(y, z))": true, "?w ?x ?y ?z (R(w, x) & R(x, y) & R(y, z))": false,
		"?x (P(x) & ?x ~P(x))": true, "?x (?x ~P(x) & P(x))": true, "!x (P(x) -> !x (x = C | R(C, x)))": true,
		"?x !x P(x)": false, "!x ?x P(x)": true,
	} {
		if got := valued(t, order(), read(t, s), nil, nil); got != want {
			t.Errorf("%s: %v, want %v", s, got, want)
		}
	}
}

// TestValueOfVariables: names and values go together by their places, and what is bound inside is given back behind it.
func TestValueOfVariables(t *testing.T) {
	for _, c := range []struct {
		text   string
		names  string
		values []int
		want   bool
	}{
		{"P(x)", "x", []int{0}, false},
		{"P(x)", "x", []int{1}, true},
		{"P(x)", "x x", []int{0, 1}, true},
		{"P(x)", "x x", []int{1, 0}, false},
		{"P(x)", "x y x", []int{1, 1, 2}, false},
		{"P(x)", "y x x y x", []int{0, 0, 2, 0, 1}, true},
		{"R(x, y)", "x y", []int{0, 1}, true},
		{"R(x, y)", "y x", []int{0, 1}, false},
		{"R(x, y)", "y x", []int{2, 0}, true},
		{"F(x) = y", "x y", []int{1, 2}, true},
		{"F(y) = x", "x y", []int{1, 2}, false},
		{"!x P(x) | P(x)", "x", []int{1}, true},
		{"P(x) & ?x ~P(x) & P(x)", "x", []int{1}, true},
		{"?x (x = C) & P(x)", "x", []int{1}, true},
		{"!x (?y R(x, y) -> ?x R(y, x)) & y = C", "y", []int{0}, true},
		{"?y R(x, y) & ?x R(x, y)", "x y", []int{0, 2}, true},
		{"?y R(x, y) & ?x R(x, y)", "x y", []int{2, 2}, false},
		{"?y R(x, y) & ?x R(x, y)", "x y", []int{0, 0}, false},
		{"~?x ~P(F(x)) | P(x)", "x", []int{1}, true},
		{"(!x !x !x P(x) -> 0) & P(x)", "x", []int{1}, true},
		{"Q", "a b abcdefgh", []int{0, 1, 2}, true},
	} {
		names := strings.Fields(c.names)
		if got := valued(t, order(), read(t, c.text), names, c.values); got != c.want {
			t.Errorf("%s, %q %v: %v, want %v", c.text, c.names, c.values, got, c.want)
		}
	}
}

// TestValueOfOneThing: in one thing all are the same.
func TestValueOfOneThing(t *testing.T) {
	for n := 1; n <= 8; n++ {
		if got := valued(t, api.Structure{N: n}, read(t, "!x !y x = y"), nil, nil); got != (n == 1) {
			t.Errorf("%d things: %v", n, got)
		}
	}
}

// TestPlaces: what stands at the place a0 + a1 N + a2 N^2, and nothing else.
func TestPlaces(t *testing.T) {
	names := []string{"x", "y", "z"}
	for n := 1; n <= 8; n++ {
		for arity := range 4 {
			predicates, functions := pred("P", words(names[:arity]...)...), word("F", words(names[:arity]...)...)
			for at := range power(n, arity) {
				s := api.Structure{N: n, Funs: []api.Fun{fun("F", arity, zeros(n, arity)...)}, Preds: []api.Pred{predicate("P", arity, zeros(n, arity)...)}}
				s.Funs[0].Table[at], s.Preds[0].Bits[at] = n-1, true
				for _, values := range [][]int{{at % n, at / n % n, at / n / n}, {at / n / n, at / n % n, at % n}, {n - 1, n / 2, 0}} {
					isThere := at == []int{0, values[0], values[0] + n*values[1], values[0] + n*values[1] + n*n*values[2]}[arity]
					if got := valued(t, s, predicates, names, values); got != isThere {
						t.Fatalf("%d things, predicate true at %d, asked at %v: %v", n, at, values[:arity], got)
					}
					given, list := append(names[:3:3], "w"), append(values[:3:3], n-1)
					if got := valued(t, s, same(functions, word("w")), given, list); got != (isThere || n == 1) {
						t.Fatalf("%d things, function at %d, asked at %v: %v", n, at, values[:arity], got)
					}
				}
			}
		}
	}
}

// isTooMany tells whether Value tells ErrMany, by what the chapter says.
func isTooMany(n int, e api.Expr) bool {
	return deepest(e) > 6 || power(n, deepest(e)) > 5000
}

// TestValueByChance holds Value against a reckoning of all rows at once.
func TestValueByChance(t *testing.T) {
	chance := rand.New(rand.NewSource(3))
	names := []string{"x", "y", "z"}
	looked, trues := 0, 0
	for range 6000 {
		n := 1 + chance.Intn(4)
		e, s := byChance(chance, 1+chance.Intn(6), names...), meanings(chance, n, vocabulary()...)
		if count(e) > api.MaxNodes || isTooMany(n, e) {
			continue
		}
		for row, want := range column(s, e, names) {
			got := valued(t, s, e, names, []int{row % n, row / n % n, row / n / n})
			if got != want {
				t.Fatalf("%s in %v, row %d: %v, want %v", text(e), s, row, got, want)
			}
			looked++
			if want {
				trues++
			}
		}
	}
	if min(trues, looked-trues) < 10000 {
		t.Errorf("%d of %d are true", trues, looked)
	}
}

// TestValueOfAllSmallExpressions: in all structures with up to two things and one predicate.
func TestValueOfAllSmallExpressions(t *testing.T) {
	names := []string{"x", "y"}
	leaves := []api.Expr{pred("R", words("x", "y")...), pred("R", words("y", "y")...), same(word("x"), word("y"))}
	for nodes := 3; nodes <= 6; nodes++ {
		for _, e := range small(nodes, leaves...) {
			for n := 1; n <= 2; n++ {
				for s := range withMeanings(api.Structure{N: n}, []symbol{{"R", 2, false}}) {
					for row, want := range column(s, e, names) {
						if got := valued(t, s, e, names, []int{row % n, row / n}); got != want {
							t.Fatalf("%s in %v, row %d: %v, want %v", text(e), s, row, got, want)
						}
					}
				}
			}
		}
	}
}

// TestNamesArePickedApart: one big name may be a function and a predicate.
func TestNamesArePickedApart(t *testing.T) {
	s := api.Structure{N: 2, Funs: []api.Fun{fun("K", 1, 1, 0)}, Preds: []api.Pred{predicate("K", 2, 0, 0, 1, 0)}}
	for row := range 4 {
		x, y := row%2, row/2
		e := pred("K", word("K", word("x")), word("y"))
		if got := valued(t, s, e, []string{"x", "y"}, []int{x, y}); got != (1-x == 0 && y == 1) {
			t.Errorf("%d, %d: %v", x, y, got)
		}
	}
}

// TestMostQuantifiers: as many in one another as may stand there, of either kind; one more is too many.
func TestMostQuantifiers(t *testing.T) {
	for n, most := range []int{1: 6, 2: 6, 3: 6, 4: 6, 5: 5, 6: 4, 7: 4, 8: 4} {
		if n == 0 {
			continue
		}
		s := api.Structure{N: n, Preds: []api.Pred{predicate("P", 1, zeros(n, 1)...)}}
		s.Preds[0].Bits[n-1] = true
		for many := range 10 {
			for _, kinds := range [][]int{{api.EAll}, {api.ESome}, {api.EAll, api.ESome}} {
				e := below(letters(many), pred("P", words(append([]string{"x"}, letters(many)...)[many])...), kinds...)
				for what, e := range map[string]api.Expr{
					"alone": e, "beside": and(node(api.ETrue), e), "below": not(or(e, node(api.EFalse))), "twice": and(e, then(e, e)),
				} {
					is, f := meaning.Value(s, e, []string{"x"}, []int{0})
					want := api.Fault{}
					if many > most {
						want = fault(api.ErrMany, 0)
					}
					sameFault(t, fmt.Sprint(n, " things, ", many, " quantifiers ", what), f, want)
					if many > most && is {
						t.Errorf("true is answered beside a fault")
					}
					if many <= most && is != isTrue(&s, &e, &given{"x", 0, nil}) {
						t.Errorf("%s in %d things: %v", text(e), n, is)
					}
				}
			}
		}
	}
}

// TestManyQuantifiersSideBySide: only those in one another are counted.
func TestManyQuantifiersSideBySide(t *testing.T) {
	e := some("x", pred("P", word("x")))
	for range 20 {
		e = and(e, not(all("x", some("x", not(pred("P", word("x")))))))
	}
	s := api.Structure{N: 8, Preds: []api.Pred{predicate("P", 1, 1, 1, 1, 1, 1, 1, 1, 1)}}
	if !valued(t, s, e, nil, nil) {
		t.Error("it is false")
	}
}

// TestLongestValue: nothing can be left out where there are most choices, and most nodes below all quantifiers.
func TestLongestValue(t *testing.T) {
	for n, most := range []int{4: 6, 5: 5, 8: 4} {
		if most == 0 {
			continue
		}
		names := letters(most)
		e := same(word("a"), word("a"))
		for count(e) < api.MaxNodes-most-14 {
			e = and(e, same(word("H", words("a", "b", "c")...), word("H", words("d", "d", "d")...)))
		}
		s := api.Structure{N: n, Funs: []api.Fun{fun("H", 3, zeros(n, 3)...)}}
		if !valued(t, s, below(names, e, api.EAll), nil, nil) {
			t.Error("it is false")
		}
		if valued(t, s, below(names, not(e), api.ESome), nil, nil) {
			t.Error("it is true")
		}
	}
}

// TestDeepWords: words as deep as may be.
func TestDeepWords(t *testing.T) {
	s := api.Structure{N: 5, Funs: []api.Fun{fun("F", 1, 1, 2, 3, 4, 0)}}
	for value := range 5 {
		e := same(nested(97, word("x")), nested(100, word("y")))
		if got := valued(t, s, e, []string{"x", "y"}, []int{value, 0}); got != ((value+97)%5 == 0) {
			t.Errorf("%d: %v", value, got)
		}
	}
	e := nots(197, pred("P", word("x")))
	one := api.Structure{N: 2, Preds: []api.Pred{predicate("P", 1, 0, 1)}}
	if !valued(t, one, e, []string{"x"}, []int{0}) || valued(t, one, e, []string{"x"}, []int{1}) {
		t.Error("many nots")
	}
}
