package bisim_test

import (
	"math/rand"
	"slices"
	"testing"

	"sequent/api"
	"sequent/modal"
)

func TestShrink(t *testing.T) {
	for _, c := range []struct {
		what    string
		m, want api.Model
	}{
		{"one world", seeing(""), seeing("")},
		{"one that sees itself", seeing("0"), seeing("0")},
		{"the chapter's two", seeing("1", ""), seeing("1", "")},
		{"two that see nothing", seeing("", ""), seeing("")},
		{"a circle", ring(7), seeing("0")},
		{"pairs in another order, and twice", seeing("2112", "2", ""), seeing("12", "2", "")},
		{"the second one first", api.Model{N: 3, Rel: [][2]int{{2, 0}, {1, 0}, {0, 1}}, True: [][]string{{"p"}, nil, nil}}, having(seeing("1", "0"), "p", "")},
		{"names in another order, and twice", having(seeing("1", "0"), "rqpqr", "pq"), having(seeing("1", "0"), "pqr", "pq")},
		{"names and pairs", having(seeing("1", "", "31", ""), "", "p", "", "pp"), having(seeing("1", ""), "", "p")},
		{"rising as bytes are", api.Model{N: 1, True: [][]string{{"b", "ab", "abc", "a", "ab"}}}, api.Model{N: 1, True: [][]string{{"a", "ab", "abc", "b"}}}},
		{"a branch that is there already", seeing("12", "3", "3", "", "5", "6", ""), seeing("1", "2", "")},
		{"what others of its class see", having(seeing("3", "2", "", ""), "q", "q", "p", "p"), having(seeing("1", ""), "q", "p")},
	} {
		if s := shrunk(t, c.m); !isSameModel(s, c.want) {
			t.Errorf("%s: %v, want %v", c.what, s, c.want)
		}
	}
}

// lookShrunk: what is shrunk has no two worlds that are alike, and is as it is when it is shrunk again.
func lookShrunk(t *testing.T, m api.Model) api.Model {
	t.Helper()
	s := shrunk(t, m)
	if again := shrunk(t, s); !isSameModel(again, s) {
		t.Fatalf("%v: %v, and then %v", m, s, again)
	}
	for w, class := range classed(t, s) {
		if class != w {
			t.Fatalf("%v: %v: %d and %d are alike", m, s, w, class)
		}
	}
	for _, names := range s.True {
		if !slices.Equal(names, rising(names)) {
			t.Fatalf("%v: %v: names", m, s)
		}
	}
	for i := 1; i < len(s.Rel); i++ {
		if slices.Compare(s.Rel[i-1][:], s.Rel[i][:]) >= 0 {
			t.Fatalf("%v: %v: pairs", m, s)
		}
	}
	return s
}

// lookTruth: f is true at a class just where it is true at its worlds.
func lookTruth(t *testing.T, m, s api.Model, f api.Formula) {
	t.Helper()
	classes := classed(t, m)
	worlds, e := modal.Eval(m, f)
	small, other := modal.Eval(s, f)
	if e != (api.Fault{}) || other != (api.Fault{}) {
		t.Fatalf("%s: %v, %v", text(f), e, other)
	}
	for w, class := range classes {
		if worlds[w] != small[class] {
			t.Fatalf("%v, %v: %s: at %d %v, at its class %v", m, s, text(f), w, worlds[w], small[class])
		}
	}
}

func TestSmallModelsShrink(t *testing.T) {
	chance := rand.New(rand.NewSource(4))
	for m := range smallModels {
		s := lookShrunk(t, m)
		for range 3 {
			lookTruth(t, m, s, anyFormula(chance, 1+chance.Intn(10), "p"))
		}
	}
}

func TestShrinkByChance(t *testing.T) {
	chance := rand.New(rand.NewSource(5))
	smaller := 0
	for range 4000 {
		m := someModel(chance, 12)
		if chance.Intn(10) == 0 {
			m = someModel(chance, api.MaxWorld)
		}
		s := lookShrunk(t, m)
		if 1 < s.N && s.N < m.N {
			smaller++
		}
		for range 5 {
			lookTruth(t, m, s, anyFormula(chance, 1+chance.Intn(20), "p", "letters", "q"))
		}
	}
	if smaller < 500 {
		t.Errorf("only %d are smaller", smaller)
	}
}

// TestShrinkBeside: a model and what it shrinks to have the same classes, world by world.
func TestShrinkBeside(t *testing.T) {
	chance := rand.New(rand.NewSource(6))
	for range 2000 {
		m := someModel(chance, api.MaxWorld/2)
		s, l := shrunk(t, m), classed(t, m)
		both := classed(t, beside(m, s))
		for class := range s.N {
			l = append(l, class)
		}
		if !slices.Equal(both, l) {
			t.Fatalf("%v beside %v: %v, want %v", m, s, both, l)
		}
	}
}
