package between_test

import (
	"math/rand"
	"testing"

	"sequent/api"
	"sequent/between"
)

func TestDefine(t *testing.T) {
	for _, c := range []struct{ what, f, name, want string }{
		{"the chapter's", "(r -> p & q) & (p & q -> r)", "r", "p & q"},
		{"it is true", "p", "p", "1"},
		{"it is false", "~p", "p", "0"},
		{"another name", "(p -> q) & (q -> p)", "p", "q"},
		{"not another name", "(p | q) & ~(p & q)", "q", "~p"},
	} {
		h, found := defined(t, read(t, c.f), c.name)
		if want := read(t, c.want); !found || !sameRows(h, want, namesIn(h, want)) {
			t.Errorf("%s: %s, want %s", c.what, text(h), c.want)
		}
	}
}

// TestDefineWhereItMatters has an f that is never true in some rows of the other names: there it is free what is answered.
func TestDefineWhereItMatters(t *testing.T) {
	for _, c := range [][2]string{
		{"p & (q -> s)", "p"}, {"p & (q -> r) & (r -> q)", "q"}, {"(p -> r) & (q -> ~r) & (p | q)", "r"}, {"p & q & (r -> s)", "p"},
		{"p & ~p", "p"}, {"p & ~p", "q"}, {"0", "p"}, {"p & q & ~(p & q)", "p"}, {"p & q & ~(p & q)", "abcdefgh"},
	} {
		if _, found := defined(t, read(t, c[0]), c[1]); !found {
			t.Errorf("%s of %s: none", c[1], c[0])
		}
	}
}

func TestNotDefined(t *testing.T) {
	for _, c := range [][2]string{
		{"p | r", "r"}, {"1", "p"}, {"p | ~p", "p"}, {"p", "q"}, {"p & q", "r"}, {"p -> q", "p"}, {"p -> q", "q"},
		{"(p -> q) & (q -> r)", "q"}, {"q & (p | ~p)", "p"}, {"a & b & c & d & e & f", "g"},
	} {
		h, e := between.Define(read(t, c[0]), c[1])
		if e != fault(api.ErrNone, 0) {
			t.Errorf("%s of %s: fault %v", c[1], c[0], e)
		}
		isNothing(t, c[0], h)
	}
}

// TestBethOneRow has an f that leaves the name open in but one row of the others, wherever that is, and one that leaves it open nowhere.
func TestBethOneRow(t *testing.T) {
	names := words("a b c d e")
	for row := range 32 {
		l := make([]bool, 32)
		l[row] = true
		one := rowsOf(names, l)
		for _, s := range []string{"c", "x"} {
			law := same(name("x"), name("b"))
			if _, found := defined(t, node(api.FOr, one, node(api.FAnd, nots(1, one), law)), s); found {
				t.Errorf("row %d: %s is told, and is open", row, s)
			}
		}
		if _, found := defined(t, same(name("x"), one), "x"); !found {
			t.Errorf("row %d: x is not told", row)
		}
	}
}

// TestDefineSmall: Beth, for all small formulas and all of their names, and one that they have not.
func TestDefineSmall(t *testing.T) {
	for _, f := range smallFormulas(5, "p", "q", "r") {
		for _, s := range words("p q r s") {
			defined(t, f, s)
		}
	}
}

func TestDefineChanced(t *testing.T) {
	chance := rand.New(rand.NewSource(13))
	pool := words("a b c d e f")
	told := 0
	for range 6000 {
		s := pool[chance.Intn(len(pool))]
		f := chanced(chance, 1+chance.Intn(60), pool[:1+chance.Intn(len(pool))])
		if chance.Intn(2) == 0 {
			f = node(api.FAnd, f, same(name(s), chanced(chance, 1+chance.Intn(40), pool)))
		}
		if _, found := defined(t, f, s); found {
			told++
		}
	}
	if told < 600 {
		t.Errorf("only %d names are told", told)
	}
}
