package bisim_test

import (
	"math/rand"
	"slices"
	"strings"
	"testing"

	"sequent/api"
)

// digits tells classes in a text.
func digits(classes []int) string {
	var text strings.Builder
	for _, class := range classes {
		text.WriteRune(rune('0' + class))
	}
	return text.String()
}

func TestClasses(t *testing.T) {
	for _, c := range []struct {
		what string
		m    api.Model
		want string
	}{
		{"the document's two", seeing("1", ""), "01"},
		{"one world", seeing(""), "0"},
		{"one that sees itself", seeing("0"), "0"},
		{"two that see nothing", seeing("", ""), "00"},
		{"one that sees itself, and one that sees nothing", seeing("0", ""), "01"},
		{"the other way round", seeing("", "1"), "01"},
		{"two that see themselves", seeing("0", "1"), "00"},
		{"two that see each other", seeing("1", "0"), "00"},
		{"itself and a circle", seeing("0", "2", "1"), "000"},
		{"circles of two and three", seeing("1", "0", "3", "4", "2"), "00000"},
		{"all see all", seeing("012", "012", "012"), "000"},
		{"all see some", seeing("1", "12", "0"), "000"},
		{"a line", line(5), "01234"},
		{"a line to where it sees itself", seeing("1", "2", "2"), "000"},
		{"a line to where p is, and sees itself", having(seeing("1", "2", "3", "3"), "", "", "", "p"), "0123"},
		{"the chapter's names", having(seeing("1", "", "31", ""), "", "p", "", "pp"), "0101"},
		{"names in another order", having(seeing("", "", ""), "pq", "qp", "pqr"), "001"},
		{"names twice", having(seeing("", "", "", ""), "pqp", "qqqp", "p", "pppp"), "0011"},
		{"other names", having(seeing("", "", "", ""), "p", "q", "", "p"), "0120"},
		{"one name and two that begin so", api.Model{N: 3, True: [][]string{{"ab"}, {"a", "b"}, {"a"}}}, "012"},
		{"the same letters", api.Model{N: 2, True: [][]string{{"ab", "c"}, {"a", "bc"}}}, "01"},
		{"eight letters", api.Model{N: 3, True: [][]string{{"abcdefgh"}, {"abcdefgi"}, {"abcdefgh"}}}, "010"},
		{"a circle with one p", having(ring(4), "", "p"), "0123"},
		{"a circle with p and none", having(ring(6), "p", "", "p", "", "p"), "010101"},
		{"a circle with p and two without", having(ring(6), "p", "", "", "p"), "012012"},
		{"one sees more than the other, and alike", seeing("12", "", "", "1"), "0110"},
		{"one sees more than the other, and others", seeing("12", "", "2", "1"), "0123"},
		{"sees nothing, and a line beside", seeing("", "2", ""), "010"},
		{"two steps on", seeing("1", "2", "", "4", ""), "01212"},
		{"two steps on by name", having(seeing("1", "2", "", "4", "5", ""), "", "", "p"), "012345"},
		{"pairs twice", seeing("111", "", "1"), "010"},
		{"a branch that is there already", seeing("12", "3", "3", "", "5", "6", ""), "0112012"},
		{"a branch that ends early", seeing("12", "3", "", "", "5", "6", ""), "0122312"},
		{"the first ones last", seeing("", "0", "1", "3"), "0123"},
		{"itself or an end", seeing("01", "", "21", "2"), "0102"},
	} {
		if l := classed(t, c.m); digits(l) != c.want {
			t.Errorf("%s: %v, want %s", c.what, l, c.want)
		}
	}
}

// TestAlikeUpToAStep: the first worlds of two lines are alike but for what they see so many steps on.
func TestAlikeUpToAStep(t *testing.T) {
	for steps := 1; steps <= 19; steps++ {
		ends := beside(line(steps+1), line(steps+1))
		if l := classed(t, ends); l[0] != l[steps+1] || slices.Max(l) != steps {
			t.Errorf("%d steps: %v", steps, l)
		}
		named := beside(line(steps+1), line(steps+1))
		named.True[steps] = []string{"p"}
		loop := beside(line(steps+1), line(steps+1))
		loop.Rel = append(loop.Rel, [2]int{steps, steps})
		for _, m := range []api.Model{named, loop, beside(line(steps), line(steps+1))} {
			l := classed(t, m)
			if second := m.N - steps - 1; l[0] == l[second] {
				t.Errorf("%v: %v", m, l)
			}
			told(t, m, 0, m.N-steps-1, false)
		}
	}
}

// TestCircles: those without names are all alike, however long; with a p they are as often parted as it takes to come there.
func TestCircles(t *testing.T) {
	for n := 1; n <= api.MaxWorld; n++ {
		m := ring(n)
		if l := classed(t, m); slices.Max(l) != 0 {
			t.Errorf("%d: %v", n, l)
		}
		m.True[n-1] = []string{"p"}
		if l := classed(t, m); l[n-1] != n-1 {
			t.Errorf("%d with p: %v", n, l)
		}
		if l := classed(t, line(n)); l[n-1] != n-1 {
			t.Errorf("a line of %d: %v", n, l)
		}
	}
	if l := classed(t, beside(ring(7), ring(33))); slices.Max(l) != 0 {
		t.Errorf("two: %v", l)
	}
}

// TestSmallModelsClasses has all models with up to three worlds and one name, and all that four worlds can see.
func TestSmallModelsClasses(t *testing.T) {
	for m := range smallModels {
		classed(t, m)
	}
	for number := range 1 << 16 {
		classed(t, numbered(4, number))
	}
}

func TestClassesByChance(t *testing.T) {
	chance := rand.New(rand.NewSource(1))
	count := map[string]int{}
	for range 20000 {
		m := someModel(chance, 12)
		switch l := classed(t, m); slices.Max(l) + 1 {
		case 1:
			count["one"]++
		case m.N:
			count["all"]++
		default:
			count["some"]++
		}
	}
	if count["one"] < 1000 || count["all"] < 1000 || count["some"] < 1000 {
		t.Errorf("few came: %v", count)
	}
	for range 300 {
		classed(t, someModel(chance, api.MaxWorld))
		classed(t, anyModel(chance, api.MaxWorld, 1+4*chance.Float64(), "p", "q"))
	}
}

// TestCopies: two of a model beside each other have the classes of one.
func TestCopies(t *testing.T) {
	chance := rand.New(rand.NewSource(2))
	for range 3000 {
		m := someModel(chance, api.MaxWorld/2)
		l := classed(t, m)
		if both := classed(t, beside(m, m)); !slices.Equal(both, slices.Concat(l, l)) {
			t.Fatalf("%v: %v, and of two %v", m, l, both)
		}
		if !isSameModel(shrunk(t, beside(m, m)), shrunk(t, m)) {
			t.Fatalf("%v: two shrink to another model", m)
		}
	}
}

// TestPlaces: which worlds are alike does not hang on their places; the numbers do.
func TestPlaces(t *testing.T) {
	chance := rand.New(rand.NewSource(3))
	for range 3000 {
		m := someModel(chance, 15)
		places := chance.Perm(m.N)
		l, other := classed(t, m), classed(t, moved(m, places))
		for u := range m.N {
			for v := range m.N {
				if (l[u] == l[v]) != (other[places[u]] == other[places[v]]) {
					t.Fatalf("%v: %v, and at %v %v", m, l, places, other)
				}
			}
		}
		next := 0
		for _, class := range other {
			if class > next {
				t.Fatalf("%v: %v", m, other)
			}
			next = max(next, class+1)
		}
	}
}

// TestMostWorlds has models of MaxWorld worlds, with as many pairs and names as there may be.
func TestMostWorlds(t *testing.T) {
	n := api.MaxWorld
	all := made(n, func(u, v int) bool { return true })
	all.Rel = append(all.Rel, slices.Repeat([][2]int{{n - 1, 0}}, 2*api.MaxList-len(all.Rel))...)
	for w := range n {
		for i := range 30 {
			all.True[w] = append(all.True[w], strings.Repeat(string(rune('a'+(i+w)%26)), 1+i/26))
		}
	}
	classed(t, all)
	shrunk(t, all)
	toldSome(t, all, 3)
	for _, m := range []api.Model{
		made(n, func(u, v int) bool { return true }),
		made(n, func(u, v int) bool { return false }),
		made(n, func(u, v int) bool { return u < v }),
		made(n, func(u, v int) bool { return u <= v }),
		made(n, func(u, v int) bool { return u != v }),
		made(n, func(u, v int) bool { return v == 2*u+1 || v == 2*u+2 }),
		made(n, func(u, v int) bool { return (v+1)%(u+1) == 0 && u != v }),
		line(n),
		ring(n),
	} {
		classed(t, m)
		shrunk(t, m)
		if _, much := toldSome(t, m, 3); much > 0 {
			t.Errorf("%v: %d are too much", m, much)
		}
	}
}
