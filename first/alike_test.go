package first_test

import (
	"math/rand"
	"strings"
	"testing"

	"sequent/api"
	"sequent/first"
)

func alike(t *testing.T, a, b api.Expr) bool {
	t.Helper()
	is, f := first.Alike(a, b)
	sameFault(t, told(a)+" and "+told(b), f, api.Fault{})
	return is
}

func TestAlike(t *testing.T) {
	for _, c := range []struct {
		a, b string
		want bool
	}{
		{"1", "1", true},
		{"1", "0", false},
		{"P(x)", "P(x)", true},
		{"P(x)", "P(y)", false},
		{"P(x)", "P(C)", false},
		{"P(x)", "Q(x)", false},
		{"P(x)", "P(x, x)", false},
		{"P(x)", "P", false},
		{"P(F(x))", "P(F(x, x))", false},
		{"P(F(x))", "P(G(x))", false},
		{"P(F)", "P(F(C))", false},
		{"x = y", "y = x", false},
		{"P & Q", "Q & P", false},
		{"P & Q", "P | Q", false},
		{"~P", "P", false},
		{"!x P(x)", "!y P(y)", true},
		{"!x P(x)", "?x P(x)", false},
		{"!x P(x)", "!y P(x)", false},
		{"!x P(y)", "!y P(y)", false},
		{"!x P(y)", "!x P(z)", false},
		{"!x P(y)", "!z P(y)", true},
		{"!x 1", "!y 1", true},
		{"!x ?y R(x, y)", "!y ?x R(y, x)", true},
		{"!x ?y R(x, y)", "!y ?x R(x, y)", false},
		{"!x ?y R(x, y)", "!x ?x R(x, x)", false},
		{"!x ?x P(x)", "!x ?y P(y)", true},
		{"!x ?x P(x)", "!y ?x P(x)", true},
		{"!x ?x P(x)", "!x ?y P(x)", false},
		{"!x ?y P(x)", "!y ?x P(x)", false},
		{"!x ?y P(x)", "!y ?x P(y)", true},
		{"!x (P(x) & ?x P(x))", "!y (P(y) & ?z P(z))", true},
		{"!x (P(x) & ?x P(x))", "!y (P(y) & ?z P(y))", false},
		{"!x (?x P(x) & P(x))", "!y (?z P(z) & P(y))", true},
		{"!x (?x P(x) & P(x))", "!y (?y P(y) & P(z))", false},
		{"!x P(x) & P(x)", "!y P(y) & P(x)", true},
		{"!x P(x) & P(x)", "!y P(y) & P(y)", false},
		{"P(x) & !x P(x)", "P(x) & !z P(z)", true},
		{"!x !y !z R(x, y, z)", "!z !x !y R(z, x, y)", true},
		{"!x !y !z R(x, y, z)", "!z !x !y R(x, y, z)", false},
		{"!x R(x, G(x, y))", "!z R(z, G(z, y))", true},
		{"!x R(x, G(x, y))", "!y R(y, G(y, y))", false},
		{"!x !y R(x, z)", "!z !y R(z, x)", false},
		{"!x x = x", "!abcdefgh abcdefgh = abcdefgh", true},
	} {
		a, b := read(t, c.a), read(t, c.b)
		for _, pair := range [][2]api.Expr{{a, b}, {b, a}} {
			if got := alike(t, pair[0], pair[1]); got != c.want {
				t.Errorf("%q and %q: %v, want %v", c.a, c.b, got, c.want)
			}
		}
	}
}

// TestAlikeMayHaveOtherPlaces: each expression is looked at by itself.
func TestAlikeMayHaveOtherPlaces(t *testing.T) {
	a, b := pred("P", word("F", word("x"))), pred("P", word("x"), word("F"))
	if alike(t, a, b) || alike(t, b, a) {
		t.Error("they are alike")
	}
}

func TestAlikeOfEmptyAndNil(t *testing.T) {
	a := and(pred("Q"), same(word("x"), word("C")))
	b := api.Expr{Kind: api.EAnd, Words: []api.Word{}, Kids: []api.Expr{
		{Kind: api.EPred, Name: "Q", Words: []api.Word{}, Kids: []api.Expr{}},
		{Kind: api.ESame, Words: []api.Word{{Name: "x", Args: []api.Word{}}, {Name: "C", Args: []api.Word{}}}, Kids: []api.Expr{}},
	}}
	if !alike(t, a, b) || !alike(t, b, a) {
		t.Error("they are not alike")
	}
}

// TestAlikeOfAllSmallExpressions: just those are alike that are the same without the names of bound variables.
func TestAlikeOfAllSmallExpressions(t *testing.T) {
	var l []api.Expr
	for nodes := range 5 {
		l = append(l, small(nodes)...)
	}
	var texts []string
	for _, e := range l {
		texts = append(texts, nameless(e, "", ""))
	}
	found := 0
	for i, a := range l {
		for j, b := range l {
			want := texts[i] == texts[j]
			if got := alike(t, a, b); got != want {
				t.Fatalf("%s and %s: %v, want %v", told(a), told(b), got, want)
			}
			if want && told(a) != told(b) {
				found++
			}
		}
	}
	if found < 100 {
		t.Errorf("only %d of %d pairs are alike, but not the same", found, len(l)*len(l))
	}
}

// renamed gives each bound variable another name, which is new or one of those that are bound nowhere around it and free nowhere in it.
func renamed(chance *rand.Rand, e api.Expr, now map[string]string) api.Expr {
	out := api.Expr{Kind: e.Kind, Name: e.Name, Words: renamedWords(e.Words, now)}
	if e.Kind == api.EAll || e.Kind == api.ESome {
		inner := map[string]string{}
		for a, b := range now {
			inner[a] = b
		}
		out.Name = strings.Repeat("v", len(now)%7+1) + string(rune('a'+chance.Intn(20)))
		for taken := true; taken; {
			taken = false
			for a, b := range now {
				taken = taken || b == out.Name && a != e.Name
			}
			if taken {
				out.Name = string(rune('a'+chance.Intn(26))) + out.Name[1:]
			}
		}
		inner[e.Name] = out.Name
		now = inner
	}
	for _, k := range e.Kids {
		out.Kids = append(out.Kids, renamed(chance, k, now))
	}
	return out
}

func renamedWords(l []api.Word, now map[string]string) []api.Word {
	var out []api.Word
	for _, w := range l {
		name := w.Name
		if n, is := now[name]; is {
			name = n
		}
		out = append(out, word(name, renamedWords(w.Args, now)...))
	}
	return out
}

// TestAlikeOfRenamed: with other names for bound variables an expression is alike; with another one for a free variable it is not.
func TestAlikeOfRenamed(t *testing.T) {
	chance := rand.New(rand.NewSource(5))
	looked := 0
	for range 5000 {
		e := byChance(chance, 1+chance.Intn(7), "x", "y", "z")
		if count(e) > api.MaxNodes {
			continue
		}
		if other := renamed(chance, e, nil); !alike(t, e, other) || !alike(t, other, e) {
			t.Fatalf("%s and %s are not alike", told(e), told(other))
		}
		for _, name := range freeIn(t, e) {
			looked++
			if other := renamed(chance, e, map[string]string{name: "w"}); alike(t, e, other) || alike(t, other, e) {
				t.Fatalf("%s and %s are alike", told(e), told(other))
			}
		}
	}
	if looked < 1000 {
		t.Errorf("only %d free variables", looked)
	}
}

func TestAlikeOfMostNodes(t *testing.T) {
	a, b := pred("R", word("x"), word("y")), pred("R", word("z"), word("y"))
	for range api.MaxNodes - 3 {
		a, b = all("x", a), all("z", b)
	}
	if !alike(t, a, b) {
		t.Error("they are not alike")
	}
	long := same(nested(97, word("x")), nested(99, word("y")))
	if !alike(t, all("x", long), all("z", same(nested(97, word("z")), nested(99, word("y"))))) {
		t.Error("they are not alike")
	}
	if alike(t, long, same(nested(97, word("x")), nested(98, word("y")))) {
		t.Error("they are alike")
	}
}
