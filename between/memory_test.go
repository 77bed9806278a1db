package between_test

import (
	"math/rand"
	"reflect"
	"slices"
	"testing"
	"unsafe"

	"sequent/api"
	"sequent/between"
)

// roomy is a list that goes on behind its length.
func roomy[T any](l []T, behind ...T) []T {
	return append(slices.Clone(l), behind...)[:len(l)]
}

// roomyFormula is f with lists that go on behind their length, with what is no formula.
func roomyFormula(f api.Formula) api.Formula {
	var kids []api.Formula
	for _, k := range f.Kids {
		kids = append(kids, roomyFormula(k))
	}
	bad := api.Formula{Kind: -7, Name: "BEHIND"}
	return api.Formula{Kind: f.Kind, Name: f.Name, Kids: roomy(kids, bad, bad)}
}

// everything copies f with what lies behind its lists' lengths.
func everything(f api.Formula) api.Formula {
	out := api.Formula{Kind: f.Kind, Name: f.Name}
	for _, k := range f.Kids[:cap(f.Kids)] {
		out.Kids = append(out.Kids, everything(k))
	}
	return out
}

// someFormulas are those of which memory is looked at.
func someFormulas(t *testing.T) []api.Formula {
	t.Helper()
	shared := read(t, "p -> ~q")
	all := []api.Formula{
		node(api.FAnd, shared, node(api.FOr, shared, shared)),
		same(name("r"), shared), read(t, "p"), read(t, "1"), read(t, "p & q & r"), odd(words("a b c d e f")), nots(199, name("p")),
	}
	chance := rand.New(rand.NewSource(19))
	for range 200 {
		all = append(all, chanced(chance, 1+chance.Intn(60), words("p q r s")))
	}
	return all
}

// answers are all that is answered of f, with some names.
func answers(f api.Formula, names []string) []api.Formula {
	one, _ := between.Interpolate(f, f)
	two, _ := between.Project(f, names)
	three, _ := between.Define(f, "r")
	four, _ := between.Interpolate(f, api.Formula{Kind: api.FOr, Kids: []api.Formula{f, name("p")}})
	five, _ := between.Project(f, []string{"q"})
	return []api.Formula{one, two, three, four, five}
}

// TestListsAreOnlyRead: neither what is handed in nor what lies behind it is changed, and nothing behind it is read.
func TestListsAreOnlyRead(t *testing.T) {
	for _, plain := range someFormulas(t) {
		f := roomyFormula(plain)
		names := roomy(words("q p a b q"), "r", "P", "s")
		was, wasNames := everything(f), slices.Clone(names[:cap(names)])
		interpolated(t, f, f)
		projected(t, f, names)
		defined(t, f, "r")
		if !reflect.DeepEqual(everything(f), was) || !slices.Equal(names[:cap(names)], wasNames) {
			t.Fatalf("what was handed in is changed: %s, %v", text(f), names)
		}
		got, want := answers(f, names), answers(plain, words("q p a b q"))
		if !slices.EqualFunc(got, want, isSame) {
			t.Fatalf("%s: other answers with room behind the lists", text(f))
		}
	}
}

// isSame takes empty Kids for none, as the document does.
func isSame(f, g api.Formula) bool {
	return f.Kind == g.Kind && f.Name == g.Name && slices.EqualFunc(f.Kids, g.Kids, isSame)
}

// places tells where the elements of all lists in f lie, those behind a list's length, too.
func places(f api.Formula) []*api.Formula {
	var l []*api.Formula
	all := f.Kids[:cap(f.Kids)]
	for i := range all {
		l = append(l, &all[i])
	}
	for _, k := range f.Kids {
		l = append(l, places(k)...)
	}
	return l
}

// TestAnswersAreNewMemory: no two lists of an answer share any, nor one of them and one that was handed in, nor one of another answer.
func TestAnswersAreNewMemory(t *testing.T) {
	for _, f := range someFormulas(t) {
		seen := map[*api.Formula]bool{}
		for _, p := range places(f) {
			seen[p] = true
		}
		for range 2 {
			for at, h := range answers(f, words("p q a b c d e f")) {
				for _, p := range places(h) {
					if seen[p] {
						t.Fatalf("answer %d of %s: memory is shared", at, text(f))
					}
					seen[p] = true
				}
			}
		}
	}
}

// TestTextsAreNotKept: neither the formulas' names nor those of the list.
func TestTextsAreNotKept(t *testing.T) {
	one, two := string([]byte("letters")), string([]byte("letters"))
	f := same(name(one), name("p"))
	first, _ := between.Interpolate(name(one), name(two))
	second, _ := between.Project(name(one), []string{two})
	third, _ := between.Define(f, "p")
	for _, h := range []api.Formula{first, second, third} {
		at := unsafe.StringData(h.Name)
		if h.Name != one || at == unsafe.StringData(one) || at == unsafe.StringData(two) {
			t.Errorf("a name is kept: %v", h)
		}
	}
}

// TestListsMayBeNil: nil and empty are the same.
func TestListsMayBeNil(t *testing.T) {
	for _, kids := range [][]api.Formula{nil, {}, {name("q")}} {
		p := api.Formula{Kind: api.FVar, Name: "p", Kids: kids[:0]}
		yes := api.Formula{Kind: api.FTrue, Kids: kids[:0]}
		interpolated(t, p, yes)
		defined(t, p, "p")
		for _, names := range [][]string{nil, {}, words("p q")[:0]} {
			if h := projected(t, p, names); text(h) != "1" {
				t.Errorf("Project: %s", text(h))
			}
		}
	}
}

func TestAnswersHangOnArgumentsAlone(t *testing.T) {
	all := someFormulas(t)
	var first [][]api.Formula
	for _, f := range all {
		first = append(first, answers(f, words("p q a b")))
	}
	for at, f := range slices.Backward(all) {
		if now := answers(f, words("p q a b")); !reflect.DeepEqual(now, first[at]) {
			t.Errorf("%s: %v, and then %v", text(f), first[at], now)
		}
	}
}
