package ordinal_test

import (
	"math/rand"
	"testing"

	"sequent/api"
	"sequent/ordinal"
)

func below(t *testing.T, a api.Ordinal, n int) api.Ordinal {
	t.Helper()
	b, f := ordinal.Below(a, n)
	sameFault(t, "Below", f, api.Fault{})
	return b
}

func TestBelow(t *testing.T) {
	for _, c := range []struct {
		a    string
		n    int
		want string
	}{
		{"1", 0, "0"},
		{"1", 7, "0"},
		{"7", 0, "6"},
		{"7", 1000000, "6"},
		{"1000000000", 3, "999999999"},
		{"w+1", 0, "w"},
		{"w+1", 5, "w"},
		{"w^(w)*3+9", 5, "w^(w)*3+8"},
		{"w", 0, "0"},
		{"w", 1, "1"},
		{"w", 5, "5"},
		{"w", 1000000, "1000000"},
		{"w*2", 0, "w"},
		{"w*2", 3, "w+3"},
		{"w*1000000000", 3, "w*999999999+3"},
		{"w^(2)", 0, "0"},
		{"w^(2)", 1, "w"},
		{"w^(2)", 3, "w*3"},
		{"w^(2)*2+w", 4, "w^(2)*2+4"},
		{"w^(2)*2", 4, "w^(2)+w*4"},
		{"w^(7)", 1000000, "w^(6)*1000000"},
		{"w^(w)", 0, "1"},
		{"w^(w)", 1, "w"},
		{"w^(w)", 3, "w^(3)"},
		{"w^(w)*2", 3, "w^(w)+w^(3)"},
		{"w^(w+1)", 0, "0"},
		{"w^(w+1)", 3, "w^(w)*3"},
		{"w^(w+5)*2", 3, "w^(w+5)+w^(w+4)*3"},
		{"w^(w*2)", 0, "w^(w)"},
		{"w^(w*2)", 3, "w^(w+3)"},
		{"w^(w^(2))", 3, "w^(w*3)"},
		{"w^(w^(2))", 0, "1"},
		{"w^(w^(w))", 3, "w^(w^(3))"},
		{"w^(w^(w))", 0, "w"},
		{"w^(w^(w+1))", 3, "w^(w^(w)*3)"},
		{"w^(w^(w)+w)", 3, "w^(w^(w)+3)"},
		{"w^(w^(w)+w)*4+w^(w)*2", 3, "w^(w^(w)+w)*4+w^(w)+w^(3)"},
		{"w^(w^(w)*2)", 1000000, "w^(w^(w)+w^(1000000))"},
	} {
		if got := said(ordinal.Below(read(c.a), c.n)); got != c.want {
			t.Errorf("Below(%s, %d): %s, want %s", c.a, c.n, got, c.want)
		}
	}
}

func TestBelowAllSmallOnes(t *testing.T) {
	for _, a := range longForms(8)[1:] {
		for n := range 5 {
			if got := below(t, shortOf(a), n); !isSame(got, shortOf(belowAgain(a, n))) {
				t.Errorf("Below(%s, %d): %s", text(t, shortOf(a)), n, text(t, got))
			}
		}
	}
	chance := rand.New(rand.NewSource(5))
	for range 3000 {
		a, n := inOrder(someTree(chance, 1+chance.Intn(40))), chance.Intn(6)
		if got := below(t, shortOf(a), n); !isSame(got, shortOf(belowAgain(a, n))) {
			t.Errorf("Below(%s, %d): %s", text(t, shortOf(a)), n, text(t, got))
		}
	}
}

// TestBelowComesNear: it rises with n, and passes all that is less than a limit.
func TestBelowComesNear(t *testing.T) {
	l := shortForms(7)
	for _, a := range l[1:] {
		last := below(t, a, 0)
		for _, n := range []int{1, 2, 3, 12} {
			b := below(t, a, n)
			if !isLess(b, a) || isLimit(a) != isLess(last, b) || !isLimit(a) && !isSame(plus(t, b, number(1)), a) {
				t.Errorf("Below(%s, %d): %s", text(t, a), n, text(t, b))
			}
			last = b
		}
		for _, b := range l {
			if isLess(b, a) && isLess(last, b) {
				t.Errorf("%s is not below what is below %s", text(t, b), text(t, a))
			}
		}
	}
}

// TestBelowEnds: there is no way down without an end.
func TestBelowEnds(t *testing.T) {
	for _, c := range []struct {
		a       string
		n, most int
	}{
		{"w^(2)", 5, 40},
		{"w^(3)+w*4+5", 3, 100},
		{"w^(w)", 3, 200},
		{"w^(w*2)", 2, 500},
		{"w^(w^(w))", 2, 2000},
	} {
		a, steps := read(c.a), 0
		for len(a.Parts) > 0 && steps <= c.most {
			a = below(t, a, c.n)
			steps++
		}
		if steps > c.most {
			t.Errorf("%s: after %d steps there is %s", c.a, steps, text(t, a))
		}
	}
}

// TestBelowTooLarge: b w^d n may have more parts than the w^c that it comes of.
func TestBelowTooLarge(t *testing.T) {
	wide := numbered(97, 1, 1)
	for _, c := range []struct {
		what string
		a    api.Ordinal
		n    int
		is   bool
	}{
		{"most, the last one goes", numbered(100, 1, 1), 0, true},
		{"most, the last one becomes a number", numbered(100, 1, 1), 9, true},
		{"most, the last one becomes two, but none of the second", numbered(100, 1, 2), 0, true},
		{"most, the last one becomes two", numbered(100, 1, 2), 1, false},
		{"room for one", row(numbered(100, 2, 1), power(number(1), 2)), 1, false},
		{"the last one becomes two, with room", row(numbered(99, 1, 2)), 9, true},
		{"a wide Exp becomes less", power(row(wide, number(1)), 1), 3, true},
		{"a wide Exp comes twice", power(row(wide, number(1)), 2), 3, false},
		{"a wide Exp once, and none of it", power(row(wide, number(1)), 2), 0, true},
		{"half as wide, twice", power(row(numbered(49, 1, 1), number(1)), 2), 3, true},
		{"the Exp that is less is wider", power(power(row(numbered(66, 1, 1), number(1)), 2), 1), 3, false},
		{"the Exp that is less is wider, with room", power(power(row(numbered(49, 1, 1), number(1)), 2), 1), 3, true},
		{"deep", tower(50), 1000000, true},
		{"deep, and twice", power(tower(49), 2), 1000000, true},
	} {
		got, f := ordinal.Below(c.a, c.n)
		if c.is {
			sameFault(t, c.what, f, api.Fault{})
			sameFault(t, c.what, ordinal.Check(got), api.Fault{})
		} else if said(got, f) != tooMuch {
			t.Errorf("%s: %s", c.what, said(got, f))
		}
	}
}

// TestBelowDeepOnes: the step is done at the bottom.
func TestBelowDeepOnes(t *testing.T) {
	for deep := 3; deep <= 50; deep++ {
		for _, n := range []int{0, 1, 1000000} {
			if got := below(t, tower(deep), n); !isSame(got, deepened(number(n), deep-2)) {
				t.Errorf("Below(%s, %d): %s", text(t, tower(deep)), n, text(t, got))
			}
			if got := below(t, deepened(number(9), deep-1), n); n > 0 && !isSame(got, deepened(power(number(8), n), deep-2)) {
				t.Errorf("%d deep: %s", deep, text(t, got))
			}
		}
	}
}
