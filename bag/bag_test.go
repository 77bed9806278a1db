package bag_test

import (
	"reflect"
	"slices"
	"testing"

	"sequent/api"
	"sequent/bag"
)

func name(s string) api.Formula { return api.Formula{Kind: api.FVar, Name: s} }

func node(kind int, kids ...api.Formula) api.Formula {
	return api.Formula{Kind: kind, Kids: kids}
}

// list has a name for each letter.
func list(letters string) []api.Formula {
	var l []api.Formula
	for _, c := range letters {
		l = append(l, name(string(c)))
	}
	return l
}

// letters is list's way back; what is no name is a star.
func letters(l []api.Formula) string {
	text := ""
	for _, f := range l {
		if f.Kind == api.FVar {
			text += f.Name
		} else {
			text += "*"
		}
	}
	return text
}

// roomy is a list of letters that goes on behind its length.
func roomy(text, behind string) []api.Formula {
	return list(text + behind)[:len(text)]
}

// endless holds itself.
func endless() api.Formula {
	kids := make([]api.Formula, 1)
	kids[0] = api.Formula{Kind: api.FNot, Kids: kids}
	return kids[0]
}

func TestSame(t *testing.T) {
	p, q := name("p"), name("q")
	all := []api.Formula{
		{}, p, q, name("pp"), node(api.FTrue), node(api.FFalse),
		node(api.FNot, p), node(api.FNot, q), node(api.FBox, p), node(api.FNot, node(api.FNot, p)),
		node(api.FAnd, p, q), node(api.FAnd, q, p), node(api.FAnd, p, p), node(api.FOr, p, q),
		node(api.FAnd, p), node(api.FAnd, p, q, p), {Kind: api.FAnd, Name: "p", Kids: []api.Formula{p, q}},
		node(api.FAnd, node(api.FNot, p), q), node(api.FAnd, p, node(api.FNot, q)),
	}
	for i, f := range all {
		for j, g := range all {
			if bag.Same(f, g) != (i == j) {
				t.Errorf("Same of %v and %v: %v", f, g, i != j)
			}
		}
		if bag.Same(f, endless()) || bag.Same(endless(), f) {
			t.Errorf("%v is the same as one without end", f)
		}
	}
	if !bag.Same(api.Formula{Kind: api.FTrue, Kids: []api.Formula{}}, node(api.FTrue)) {
		t.Errorf("a list without elements is not the same as nil")
	}
}

func TestHas(t *testing.T) {
	for _, c := range []struct {
		l, f string
		want bool
	}{
		{"", "p", false}, {"p", "p", true}, {"q", "p", false}, {"qrp", "p", true}, {"pqr", "p", true}, {"qrs", "p", false},
	} {
		if bag.Has(roomy(c.l, "p"), name(c.f)) != c.want {
			t.Errorf("Has of %s, %s: %v", c.l, c.f, !c.want)
		}
	}
}

func TestWithout(t *testing.T) {
	for _, c := range []struct{ l, want string }{
		{"", ""}, {"p", ""}, {"q", "q"}, {"pq", "q"}, {"qp", "q"}, {"qpr", "qr"}, {"pp", "p"}, {"qpqp", "qqp"}, {"qrs", "qrs"},
	} {
		l := roomy(c.l, "pz")
		got := bag.Without(l, name("p"))
		if letters(got) != c.want {
			t.Errorf("Without of %s: %s", c.l, letters(got))
		}
		clear(got[:cap(got)])
		if letters(l[:len(l)+2]) != c.l+"pz" {
			t.Errorf("Without of %s: what was handed in became %s", c.l, letters(l[:len(l)+2]))
		}
	}
}

func TestWith(t *testing.T) {
	l := roomy("pq", "yz")
	first := bag.With(l, list("ab")...)
	second := bag.With(l, list("cd")...)
	if letters(first) != "pqab" || letters(second) != "pqcd" || letters(bag.With(nil, l...)) != "pq" || letters(bag.With(l)) != "pq" {
		t.Errorf("With: %s, %s", letters(first), letters(second))
	}
	clear(first)
	alone := bag.With(l)
	clear(alone)
	if letters(l[:4]) != "pqyz" {
		t.Errorf("what was handed in became %s", letters(l[:4]))
	}
}

func TestIsWithinAndIsEqual(t *testing.T) {
	for _, c := range []struct {
		l, whole       string
		within, equals bool
	}{
		{"", "", true, true},
		{"", "p", true, false},
		{"p", "", false, false},
		{"p", "p", true, true},
		{"p", "q", false, false},
		{"p", "qp", true, false},
		{"pq", "qp", true, true},
		{"pp", "p", false, false},
		{"p", "pp", true, false},
		{"pp", "pq", false, false},
		{"ppq", "pqq", false, false},
		{"pqrpq", "qqppr", true, true},
		{"pqr", "rrqqpp", true, false},
		{"pqrs", "rrqqpp", false, false},
	} {
		l, whole := roomy(c.l, "z"), roomy(c.whole, "ppqqrrz")
		if bag.IsWithin(l, whole) != c.within || bag.IsEqual(l, whole) != c.equals {
			t.Errorf("%s and %s: %v, %v", c.l, c.whole, !c.within, !c.equals)
		}
		if letters(l[:len(l)+1]) != c.l+"z" || letters(whole[:len(whole)+7]) != c.whole+"ppqqrrz" {
			t.Errorf("%s and %s: what was handed in is changed", c.l, c.whole)
		}
	}
}

// TestIsWithinOfAll counts each letter, over all short lists.
func TestIsWithinOfAll(t *testing.T) {
	texts := []string{""}
	for i := 0; len(texts[i]) < 3; i++ {
		for _, c := range "pqr" {
			texts = append(texts, texts[i]+string(c))
		}
	}
	for _, a := range texts {
		for _, b := range texts {
			most := map[rune]int{}
			for _, c := range b {
				most[c]++
			}
			want := true
			for _, c := range a {
				most[c]--
				want = want && most[c] >= 0
			}
			if bag.IsWithin(list(a), list(b)) != want {
				t.Errorf("IsWithin of %q and %q: %v", a, b, !want)
			}
			if sorted(a) == sorted(b) != bag.IsEqual(list(a), list(b)) {
				t.Errorf("IsEqual of %q and %q", a, b)
			}
		}
	}
}

func sorted(text string) string {
	l := []byte(text)
	slices.Sort(l)
	return string(l)
}

func TestListsWithoutEnd(t *testing.T) {
	long := make([]api.Formula, 1<<20)
	for i := range long {
		long[i] = endless()
	}
	if bag.IsWithin(long, list("pq")) || bag.IsEqual(long[:2], list("pq")) || bag.IsWithin(list("pq"), long) {
		t.Errorf("formulas without end are among names")
	}
	if !reflect.DeepEqual(bag.Without(list("pq"), endless()), list("pq")) {
		t.Errorf("a formula without end is taken out of names")
	}
}
