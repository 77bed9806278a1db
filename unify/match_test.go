package unify_test

import (
	"math/rand"
	"slices"
	"testing"

	"sequent/api"
	"sequent/unify"
)

func TestMatch(t *testing.T) {
	for text, want := range map[string]string{
		"":                           "",
		"G(x,x)=G(y,y)":              "x=y",
		"x=x":                        "x=x",
		"x=y":                        "x=y",
		"x=F(x)":                     "x=F(x)",
		"C=C":                        "",
		"F(C)=F(C) x=C":              "x=C",
		"G(x,y)=G(y,x)":              "x=y y=x",
		"H(x,y,z)=H(y,z,x)":          "x=y y=z z=x",
		"G(x,y)=G(z,z)":              "x=z y=z",
		"x=F(y) y=x":                 "x=F(y) y=x",
		"x=y y=z":                    "x=y y=z",
		"x=F(x) y=F(y)":              "x=F(x) y=F(y)",
		"z=a y=b x=c":                "x=c y=b z=a",
		"b=C a=C abc=C aa=C":         "a=C aa=C abc=C b=C",
		"x=G(y,F(C)) x=G(y,F(C))":    "x=G(y,F(C))",
		"F(x)=F(G(x,x)) x=G(x,x)":    "x=G(x,x)",
		"G(F(x),y)=G(F(D),F(D))":     "x=D y=F(D)",
		"x=Abcdefgh abcdefgh=F(y)":   "abcdefgh=F(y) x=Abcdefgh",
		"F(x)=F(C) F(x,y)=F(C,D)":    "x=C y=D",
		"G(x,x)=G(F(y),F(y)) F(y)=F": "none",
	} {
		q := readQuestion(t, text)
		l, f := unify.Match(q.a, q.b)
		if want == "none" {
			refused(t, text, unify.Match, q, fault(api.ErrNone, 0))
			continue
		}
		if f != (api.Fault{}) || toldBinds(l) != want {
			t.Errorf("%s: %s, %v, want %s", text, toldBinds(l), f, want)
		}
	}
}

func TestWordsThatDoNotMatch(t *testing.T) {
	for _, text := range []string{
		"C=y", "C=D", "F(x)=y", "F(x)=C", "F(x)=G(x,x)", "F(x)=F(x,y)", "F(x)=F", "F=F(x)", "F(C)=F(x)",
		"G(x,x)=G(y,z)", "G(x,x)=G(x,y)", "G(x,x)=G(C,D)", "G(x,x)=G(C,x)", "G(x,x)=G(F(y),F(z))",
		"x=C x=D", "x=x x=y", "x=y y=y x=z", "x=F(x) x=F(F(x))", "x=y C=D", "C=D x=y", "G(x,y)=G(C,D) y=C",
		"G(x,F(C))=G(C,x)", "F(F(F(C)))=F(F(F(D)))", "x=F(C) x=F(C,C)", "x=C x=C(D)",
	} {
		q := readQuestion(t, text)
		refused(t, text, unify.Match, q, fault(api.ErrNone, 0))
	}
}

// at is what stands in l at the path: a place in it, then one among the Args of what is there, and so on.
func at(l []api.Word, path []int) (w api.Word, is bool) {
	for _, i := range path {
		if i >= len(l) {
			return api.Word{}, false
		}
		w = l[i]
		l = w.Args
	}
	return w, true
}

// pathTo is the path of the first place where the variable stands in l.
func pathTo(l []api.Word, name string) []int {
	for i, w := range l {
		if w.Name == name {
			return []int{i}
		}
		if path := pathTo(w.Args, name); path != nil {
			return append([]int{i}, path...)
		}
	}
	return nil
}

// matched is a second way: each variable is what stands at its first place, and then all is held against b.
func matched(q question) (l []api.Bind, is bool) {
	for _, name := range variablesIn(q.a) {
		w, is := at(q.b, pathTo(q.a, name))
		if !is {
			return nil, false
		}
		l = append(l, api.Bind{Name: name, Word: w})
	}
	return l, slices.EqualFunc(valuesOf(l).inAll(q.a), q.b, isSame)
}

// isMatchedAlike tells whether there is a substitution.
func isMatchedAlike(t *testing.T, q question) bool {
	t.Helper()
	want, is := matched(q)
	if !is {
		refused(t, q.told(), unify.Match, q, fault(api.ErrNone, 0))
		return false
	}
	if got, f := unify.Match(q.a, q.b); f != (api.Fault{}) || toldBinds(got) != toldBinds(want) {
		t.Fatalf("%s: %s, %v, want %s", q.told(), toldBinds(got), f, toldBinds(want))
	}
	return true
}

// TestSmallWordsAreMatchedAlike: also, where anything that can be tried matches, it is what is answered.
func TestSmallWordsAreMatchedAlike(t *testing.T) {
	l := upTo(4, "x", "y", "C")
	tries := allValues(upTo(3, "x", "y", "C"))
	found := 0
	for _, v := range l {
		for _, w := range l {
			q := question{[]api.Word{v}, []api.Word{w}}
			is := isMatchedAlike(t, q)
			if is {
				found++
			}
			answered, _ := unify.Match(q.a, q.b)
			for _, other := range tries {
				if isSame(other.in(v), w) && (!is || !other.has(answered)) {
					t.Fatalf("%s: %s, and not %v", q.told(), toldBinds(answered), other)
				}
			}
		}
	}
	if found < 200 {
		t.Errorf("only %d match", found)
	}
}

// has tells whether v has the words of l for its names.
func (v values) has(l []api.Bind) bool {
	for _, b := range l {
		if !isSame(v[b.Name], b.Word) {
			return false
		}
	}
	return true
}

func TestWordsByChanceAreMatchedAlike(t *testing.T) {
	chance := rand.New(rand.NewSource(3))
	var found, not, shared int
	for range 20000 {
		q := someQuestion(chance, 4, 3, "x", "y", "z", "u", "C")
		if chance.Intn(2) == 0 {
			v := values{}
			for _, name := range []string{"x", "y", "z", "u"} {
				v[name] = byChance(chance, 2, "x", "y", "z", "w", "C")
			}
			q.b = v.inAll(q.a)
		}
		if !isMatchedAlike(t, q) {
			not++
			continue
		}
		found++
		if inB := variablesIn(q.b); slices.ContainsFunc(variablesIn(q.a), func(s string) bool { return slices.Contains(inB, s) }) {
			shared++
		}
	}
	if min(found, not, shared) < 4000 {
		t.Errorf("%d match, %d of them with names on both sides, and %d do not", found, shared, not)
	}
}

// TestWhatMatchesCanBeMadeTheSame: where no variable is on both sides.
func TestWhatMatchesCanBeMadeTheSame(t *testing.T) {
	chance := rand.New(rand.NewSource(4))
	for range 3000 {
		q := someQuestion(chance, 3, 3, "x", "y", "C")
		v := values{"x": byChance(chance, 2, "u", "w", "C"), "y": byChance(chance, 2, "u", "w", "C")}
		q.b = v.inAll(q.a)
		l, f := unify.Match(q.a, q.b)
		sameFault(t, q.told(), f, api.Fault{})
		if got := unified(t, q); !valuesOf(l).isMadeOf(valuesOf(got), q.variables()) {
			t.Fatalf("%s: %s, and %s", q.told(), toldBinds(l), toldBinds(got))
		}
	}
}
