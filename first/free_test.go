package first_test

import (
	"math/rand"
	"slices"
	"strings"
	"testing"

	"sequent/api"
	"sequent/first"
)

func freeIn(t *testing.T, e api.Expr) []string {
	t.Helper()
	l, f := first.Free(e)
	sameFault(t, told(e), f, api.Fault{})
	return l
}

func TestFree(t *testing.T) {
	for text, want := range map[string]string{
		"1":                                "",
		"Q & C = D":                        "",
		"P(x)":                             "x",
		"!x P(x)":                          "",
		"?x P(x)":                          "",
		"!x P(y)":                          "y",
		"R(y, x)":                          "x y",
		"R(x, x) & x = x":                  "x",
		"!x P(x) & P(x)":                   "x",
		"P(x) & !x P(x)":                   "x",
		"!x (P(x) & P(x))":                 "",
		"!x !x P(x)":                       "",
		"!x (?x P(x) -> P(x))":             "",
		"?y (!x R(x, y) | x = y)":          "x",
		"!x ?y R(F(x), G(y, H(z)))":        "z",
		"R(F(b), ab) | aa = a & ~P(z)":     "a aa ab b z",
		"!x R(x, y) & P(z) & P(x)":         "x y z",
		"z = y -> y = x":                   "x y z",
		"!x 1 & P(x)":                      "x",
		"!abcdefgh abcdefgh = abcdefg":     "abcdefg",
		"?x x = y -> ?y x = y":             "x y",
		"!x (!y (P(y) -> P(x)) -> P(y))":   "y",
		"F(G(x), C) = C | !z P(F(z, z))":   "x",
		"!x !y !z (R(x, y) & R(z, zz))":    "zz",
		"(!x P(x)) & (!y P(y)) & P(w)":     "w",
		"!x (P(x) & !y (P(y) & P(z))) | 0": "z",
	} {
		if got := freeIn(t, read(t, text)); !slices.Equal(got, strings.Fields(want)) {
			t.Errorf("Free of %q: %q, want %s", text, got, want)
		}
	}
}

// TestFreeLikeOther: a variable is free just if putting another word for it in the nameless text changes this.
func TestFreeLikeOther(t *testing.T) {
	chance := rand.New(rand.NewSource(4))
	names := []string{"b", "ab", "a", "x"}
	for range 5000 {
		e := byChance(chance, 1+chance.Intn(6), names...)
		if count(e) > api.MaxNodes {
			continue
		}
		var want []string
		for _, name := range []string{"a", "ab", "b", "x"} {
			if nameless(e, name, "?") != nameless(e, "", "") {
				want = append(want, name)
			}
		}
		if got := freeIn(t, e); !slices.Equal(got, want) {
			t.Fatalf("Free of %s: %q, want %q", told(e), got, want)
		}
	}
}

func TestFreeOfMostNodes(t *testing.T) {
	var l []api.Word
	var want []string
	for i := range api.MaxNodes - 1 {
		name := string([]byte{'a' + byte(i/26), 'a' + byte(i%26)})
		l = append([]api.Word{word(name)}, l...)
		want = append(want, name)
	}
	if got := freeIn(t, pred("P", l...)); !slices.Equal(got, want) {
		t.Errorf("%q, want %q", got, want)
	}
}
