package between_test

import (
	"math/rand"
	"testing"

	"sequent/api"
)

func TestProject(t *testing.T) {
	for _, c := range []struct{ what, f, names, want string }{
		{"a chain", "(p -> q) & (q -> r)", "p r", "p -> r"},
		{"all names", "p & q", "p q", "p & q"},
		{"all names, the other way round", "p & ~q", "q p", "p & ~q"},
		{"one of two", "p & q", "p", "p"},
		{"one of two that says nothing alone", "p | q", "p", "1"},
		{"no names, and it can be true", "p & q", "", "1"},
		{"no names, and it is never true", "p & ~p", "", "0"},
		{"never true", "p & ~p & q", "p q", "0"},
		{"always true", "p | ~p", "p", "1"},
		{"names that it has not", "p & q", "r s", "1"},
		{"a name that it has not among those it has", "p & q", "r p s", "p"},
		{"names that stand twice", "p & q", "p p r r p", "p"},
		{"a name that stands twice, and all are there", "p & ~q", "q p q p", "p & ~q"},
		{"true", "1", "p", "1"},
		{"false", "0", "p", "0"},
		{"true, no names", "1", "", "1"},
		{"a name that does not matter", "p & (q | ~q)", "p q", "p"},
		{"the other name decides", "(p -> q) & (~p -> r)", "q r", "q | r"},
		{"just one of them", "(p -> q) & (q -> p)", "p", "1"},
		{"the longest name", "abcdefgh & a", "abcdefgh", "abcdefgh"},
	} {
		h := projected(t, read(t, c.f), words(c.names))
		if want := read(t, c.want); !sameRows(h, want, namesIn(h, want)) {
			t.Errorf("%s: %s, want %s", c.what, text(h), c.want)
		}
	}
}

// TestProjectSaysAll holds what is answered against all that f makes: the chapter's own words. One of the names is not f's.
func TestProjectSaysAll(t *testing.T) {
	names := words("p q s")
	for _, f := range smallFormulas(4, "p", "q", "r") {
		h := projected(t, f, names)
		all := words("p q s r")
		own, said := column(f, all), column(h, all)
		if !makes(own, said) {
			t.Fatalf("%s does not make %s", text(f), text(h))
		}
		for number := range 1 << 8 {
			g := make([]bool, 16)
			for row := range g {
				g[row] = number>>(row&7)&1 == 1
			}
			if makes(own, g) && !makes(said, g) {
				t.Fatalf("%s makes the table %b, and %s does not", text(f), number, text(h))
			}
		}
	}
}

func TestProjectSmall(t *testing.T) {
	for _, f := range smallFormulas(5, "p", "q", "r") {
		for _, names := range []string{"", "p", "q", "r", "p q", "r q", "p r", "p q r", "s", "s q s q"} {
			projected(t, f, words(names))
		}
	}
}

func TestProjectChanced(t *testing.T) {
	chance := rand.New(rand.NewSource(11))
	pool, more := words("a b c d e f"), words("a b c d e f g h abc")
	for range 8000 {
		f := chanced(chance, 1+chance.Intn(120), pool[:1+chance.Intn(len(pool))])
		var names []string
		for range chance.Intn(9) {
			names = append(names, more[chance.Intn(len(more))])
		}
		projected(t, f, names)
	}
}

// TestProjectLists: just MaxList entries are not too many, whatever they are.
func TestProjectLists(t *testing.T) {
	f := read(t, "p & (q -> r)")
	same := make([]string, api.MaxList)
	many := make([]string, api.MaxList)
	for i := range many {
		same[i] = "q"
		many[i] = "x" + string(rune('a'+i/100)) + string(rune('a'+i/10%10)) + string(rune('a'+i%10))
	}
	projected(t, f, same)
	projected(t, f, many)
	many[api.MaxList-1] = "p"
	if h := projected(t, f, many); text(h) != "p" {
		t.Errorf("the last one is passed over: %s", text(h))
	}
}
