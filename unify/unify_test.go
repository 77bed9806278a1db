package unify_test

import (
	"math/rand"
	"slices"
	"testing"

	"sequent/api"
	"sequent/unify"
)

// looksRight looks at all that is promised of a substitution, but that others are made of it.
func looksRight(t *testing.T, q question, l []api.Bind) {
	t.Helper()
	var names []string
	var out []api.Word
	for _, b := range l {
		names, out = append(names, b.Name), append(out, b.Word)
	}
	if !slices.IsSorted(names) || len(slices.Compact(slices.Clone(names))) != len(names) {
		t.Fatalf("%s: %q: names are not rising, each once", q.told(), names)
	}
	known, inside := q.variables(), variablesIn(out)
	for _, name := range names {
		if !slices.Contains(known, name) || slices.Contains(inside, name) {
			t.Fatalf("%s: %s is not handed in, or is in a word that is answered", q.told(), name)
		}
	}
	for _, name := range inside {
		if !slices.Contains(known, name) {
			t.Fatalf("%s: %s is new", q.told(), name)
		}
	}
	if !valuesOf(l).makeSame(q) {
		t.Fatalf("%s: they do not become the same", q.told())
	}
}

// unified asks for a substitution that looks right.
func unified(t *testing.T, q question) []api.Bind {
	t.Helper()
	l, f := unify.Unify(q.a, q.b)
	if f != (api.Fault{}) {
		t.Fatalf("%s: %v", q.told(), f)
	}
	looksRight(t, q, l)
	return l
}

// isSolvedAlike holds Unify against solve: what each of them finds must be made of what the other one does. It tells whether they find something.
func isSolvedAlike(t *testing.T, q question) bool {
	t.Helper()
	found, is := solve(q)
	if !is {
		refused(t, q.told(), unify.Unify, q, fault(api.ErrNone, 0))
		return false
	}
	v := valuesOf(unified(t, q))
	if !found.isMadeOf(v, q.variables()) || !v.isMadeOf(found, q.variables()) {
		t.Fatalf("%s: %v, and %v", q.told(), v, found)
	}
	return true
}

// TestUnify has what can become the same in one way alone.
func TestUnify(t *testing.T) {
	for text, want := range map[string]string{
		"":                             "",
		"F(x,C)=F(D,y)":                "x=D y=C",
		"C=C":                          "",
		"x=x":                          "",
		"G(x,y)=G(x,y)":                "",
		"x=C":                          "x=C",
		"x=C x=C C=x":                  "x=C",
		"x=F(C) y=G(x,x)":              "x=F(C) y=G(F(C),F(C))",
		"y=G(x,x) x=F(C)":              "x=F(C) y=G(F(C),F(C))",
		"G(x,F(x))=G(C,y)":             "x=C y=F(C)",
		"G(x,x)=G(F(y),F(C))":          "x=F(C) y=C",
		"x=F(y) x=F(C)":                "x=F(C) y=C",
		"x=F(C) x=F(y)":                "x=F(C) y=C",
		"F(x)=F(F(y)) y=C":             "x=F(C) y=C",
		"x=y y=z z=C":                  "x=C y=C z=C",
		"z=C y=z x=y":                  "x=C y=C z=C",
		"b=C a=C abc=C aa=C":           "a=C aa=C abc=C b=C",
		"z=F(a) zz=F(a) y=F(a)":        "y=F(a) z=F(a) zz=F(a)",
		"H(x,y,z)=H(F(y),F(z),C)":      "x=F(F(C)) y=F(C) z=C",
		"abcdefgh=Abcdefgh(x,y)":       "abcdefgh=Abcdefgh(x,y)",
		"x=F(y) y=F(z) z=F(w) w=C":     "w=C x=F(F(F(C))) y=F(F(C)) z=F(C)",
		"G(x,G(y,y))=G(G(y,C),G(C,z))": "x=G(C,C) y=C z=C",
		"F(x)=F(C) F(x,y)=F(C,D)":      "x=C y=D",
		"x=F(C) y=F(C,D)":              "x=F(C) y=F(C,D)",
		"x=C y=C(D)":                   "x=C y=C(D)",
	} {
		q := readQuestion(t, text)
		if got := toldBinds(unified(t, q)); got != want {
			t.Errorf("%s: %s, want %s", text, got, want)
		}
		if got := toldBinds(unified(t, q.turned())); got != want {
			t.Errorf("%s, turned: %s, want %s", text, got, want)
		}
	}
}

func TestWordsThatCannotBeMadeTheSame(t *testing.T) {
	for _, text := range []string{
		"C=D", "F(x)=G(x,x)", "F(x)=C", "F(x)=F(x,y)", "F(x)=F", "F(C)=F(D)",
		"x=C x=D", "x=C y=D x=y", "x=C y=D z=x z=y", "G(x,x)=G(C,D)", "G(x,x)=G(F(y),G(y,y))", "x=F(C) x=F(C,C)", "x=F y=F(x) x=y",
		"x=F(x)", "x=F(F(F(x)))", "x=G(C,F(x))", "x=G(y,G(C,x))", "F(x)=F(F(x))",
		"x=F(y) y=F(x)", "x=y y=F(x)", "x=y z=F(y) z=x", "x=F(y) y=F(z) z=F(x)", "x=F(y) y=z z=x", "G(x,y)=G(F(y),F(x))",
		"x=F(y) x=F(F(x))", "G(x,x)=G(y,F(y))", "x=F(z) y=F(x) z=G(C,y)", "x=F(x) x=F(x)", "x=F(x) y=F(y) x=y", "x=G(x,y) y=G(y,x)",
		"C=C x=x y=F(y)", "x=F(x) C=D", "C=D x=F(x)", "F(F(F(F(C))))=F(F(F(F(D))))",
	} {
		q := readQuestion(t, text)
		refused(t, text, unify.Unify, q, fault(api.ErrNone, 0))
		refused(t, text+", turned", unify.Unify, q.turned(), fault(api.ErrNone, 0))
	}
}

// TestVariablesThatBecomeOne: which of them stands for the others is free.
func TestVariablesThatBecomeOne(t *testing.T) {
	for text, want := range map[string]int{
		"x=y":                               1,
		"x=y x=y y=x":                       1,
		"x=y y=z z=x":                       2,
		"z=x y=x z=y":                       2,
		"x=y z=w":                           2,
		"x=y z=w y=z":                       3,
		"x=y z=w y=z w=x":                   3,
		"H(x,y,z)=H(y,z,x)":                 2,
		"G(x,y)=G(y,x)":                     1,
		"F(x)=y F(z)=y":                     2,
		"F(x)=y F(z)=w y=w":                 3,
		"G(x,F(x))=G(y,F(y))":               1,
		"x=F(y) x=F(z) x=F(w) y=u u=w":      4,
		"G(x,G(y,z))=G(y,G(z,x)) w=F(x)":    3,
		"G(x,F(w))=G(y,z) z=F(x) G(w)=G(y)": 3,
	} {
		q := readQuestion(t, text)
		for _, q := range []question{q, q.turned()} {
			if l := unified(t, q); len(l) != want {
				t.Errorf("%s: %s, want %d", q.told(), toldBinds(l), want)
			}
			isSolvedAlike(t, q)
		}
	}
}

// TestVariablesOfBothSidesAreTheSame: x of a is x of b.
func TestVariablesOfBothSidesAreTheSame(t *testing.T) {
	refused(t, "x, F(x)", unify.Unify, readQuestion(t, "x=F(x)"), fault(api.ErrNone, 0))
	if got := toldBinds(unified(t, readQuestion(t, "G(x,F(C))=G(F(y),x)"))); got != "x=F(C) y=C" {
		t.Error(got)
	}
}

// isTried holds Unify against all that can be tried: each one that makes q the same must be made of what is answered.
func isTried(t *testing.T, q question, tries []values) bool {
	t.Helper()
	l, f := unify.Unify(q.a, q.b)
	if f == (api.Fault{}) {
		looksRight(t, q, l)
	} else {
		sameFault(t, q.told(), f, fault(api.ErrNone, 0))
	}
	v := valuesOf(l)
	for _, other := range tries {
		if !other.makeSame(q) {
			continue
		}
		if f != (api.Fault{}) {
			t.Fatalf("%s: %v, though there is %v", q.told(), f, other)
		}
		if !other.isMadeOf(v, []string{"x", "y"}) {
			t.Fatalf("%s: %v is not made of %s", q.told(), other, toldBinds(l))
		}
	}
	return f == (api.Fault{})
}

// allValues of x and y.
func allValues(l []api.Word) []values {
	var out []values
	for _, x := range l {
		for _, y := range l {
			out = append(out, values{"x": x, "y": y})
		}
	}
	return out
}

func TestAllOthersAreMadeOfIt(t *testing.T) {
	tries := allValues(upTo(3, "x", "y", "z", "C"))
	l, found := upTo(4, "x", "y", "C"), 0
	for _, v := range l {
		for _, w := range l {
			if isTried(t, question{[]api.Word{v}, []api.Word{w}}, tries) {
				found++
			}
		}
	}
	chance := rand.New(rand.NewSource(1))
	l = upTo(3, "x", "y", "C")
	pick := func() api.Word { return l[chance.Intn(len(l))] }
	for range 2000 {
		if isTried(t, question{[]api.Word{pick(), pick()}, []api.Word{pick(), pick()}}, tries) {
			found++
		}
	}
	if found < 500 {
		t.Errorf("only %d can be made the same", found)
	}
}

func TestSmallWordsAreSolvedAlike(t *testing.T) {
	found := 0
	l := upTo(4, "x", "y", "z")
	for _, v := range l {
		for _, w := range l {
			if isSolvedAlike(t, question{[]api.Word{v}, []api.Word{w}}) {
				found++
			}
		}
	}
	l = upTo(2, "x", "y", "z", "C")
	pairs := func(visit func(v, w api.Word)) {
		for _, v := range l {
			for _, w := range l {
				visit(v, w)
			}
		}
	}
	pairs(func(u, v api.Word) {
		pairs(func(w, z api.Word) {
			if isSolvedAlike(t, question{[]api.Word{u, w}, []api.Word{v, z}}) {
				found++
			}
		})
	})
	if found < 1000 {
		t.Errorf("only %d can be made the same", found)
	}
}

func TestWordsByChanceAreSolvedAlike(t *testing.T) {
	chance := rand.New(rand.NewSource(2))
	var found, not, large int
	for range 20000 {
		q := someQuestion(chance, 7, 3, "x", "y", "z", "u", "v", "w", "C")
		if !isSolvedAlike(t, q) {
			not++
			continue
		}
		found++
		if q.nodes() > 40 {
			large++
		}
	}
	if min(found, not) < 4000 || large < 200 {
		t.Errorf("%d can be made the same, %d of them large, and %d cannot", found, large, not)
	}
}
