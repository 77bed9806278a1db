package modlog_test

import (
	"math/rand"
	"reflect"
	"slices"
	"testing"
	"unsafe"

	"sequent/api"
	"sequent/modlog"
)

// roomyFormulas go on behind their lengths with what must not stand there.
func roomyFormulas(l []api.Formula) []api.Formula {
	var out []api.Formula
	for _, f := range l {
		f.Kids = roomyFormulas(f.Kids)
		out = append(out, f)
	}
	bad := api.Formula{Kind: -7, Name: "BEHIND"}
	return append(out, bad, bad, bad)[:len(l)]
}

// everything copies formulas with what lies behind their lengths.
func everything(l []api.Formula) []api.Formula {
	var out []api.Formula
	for _, f := range l[:cap(l)] {
		f.Kids = everything(f.Kids)
		out = append(out, f)
	}
	return out
}

// answer is what both calls say of a formula, Decide in all logics.
type answer struct {
	valid  [GL + 1]bool
	models [GL + 1]api.Model
	boxed  api.Formula
	faults [GL + 1]api.Fault
}

func answers(f api.Formula) (a answer) {
	for logic := K; logic <= GL; logic++ {
		a.valid[logic], a.models[logic], a.faults[logic] = modlog.Decide(logic, f)
	}
	a.boxed, a.faults[0] = modlog.Boxed(f)
	return a
}

func someFormulas(t *testing.T) []api.Formula {
	t.Helper()
	shared := read(t, "[]p -> <>q")
	plain := read(t, "~(p & q) | p")
	all := []api.Formula{
		node(api.FAnd, shared, node(api.FBox, shared)),
		node(api.FThen, plain, node(api.FNot, plain)),
		doubled(api.FThen, 5, name("p")),
		below(api.FBox, 9, name("p")),
		below(api.FBox, 10, name("p")),
		read(t, "p | q | r | s | t"),
		node(api.FTrue),
		{},
	}
	chance := rand.New(rand.NewSource(9))
	for range 150 {
		all = append(all, anyModal(chance, api.MaxSubs, "p", "q", "r"))
		all = append(all, anyFormula(chance, 1+chance.Intn(20), []int{api.FNot}, "p", "q", "r"))
	}
	return all
}

// TestListsAreOnlyRead: neither what is handed in nor what lies behind it is changed, and nothing behind it is read.
func TestListsAreOnlyRead(t *testing.T) {
	for _, f := range someFormulas(t) {
		want := answers(f)
		l := roomyFormulas([]api.Formula{f})
		was := everything(l)
		if a := answers(l[0]); !reflect.DeepEqual(a, want) {
			t.Fatalf("%s: %v, want %v", text(f), a, want)
		}
		if !reflect.DeepEqual(everything(l), was) {
			t.Fatalf("%s is changed", text(f))
		}
	}
}

// places has where each element of a list lies, those behind its length, too.
type places struct {
	seen   map[any]int
	shared int
}

// newPlaces tells whether the list's elements lie where no others did.
func newPlaces[T any](p *places, l []T) bool {
	all := l[:cap(l)]
	for i := range all {
		p.seen[&all[i]]++
		if p.seen[&all[i]] > 1 {
			p.shared++
			return false
		}
	}
	return true
}

func (p *places) list(l []api.Formula) {
	if newPlaces(p, l) {
		for _, f := range l {
			p.list(f.Kids)
		}
	}
}

func (p *places) model(m api.Model) {
	newPlaces(p, m.Rel)
	newPlaces(p, m.True)
	for _, names := range m.True {
		newPlaces(p, names)
	}
}

// TestAnswersAreNewMemory: no two lists of an answer share any, nor one of them and one that was handed in, even if that is at several nodes.
func TestAnswersAreNewMemory(t *testing.T) {
	for _, f := range someFormulas(t) {
		p := places{seen: map[any]int{}}
		l := roomyFormulas([]api.Formula{f})
		p.list(l)
		for range 2 {
			a := answers(l[0])
			for _, m := range a.models {
				p.model(m)
			}
			p.list(a.boxed.Kids)
		}
		if p.shared > 0 {
			t.Fatalf("%s: memory is shared", text(f))
		}
	}
	kids := letters(2)
	f := api.Formula{Kind: api.FAnd, Kids: []api.Formula{{Kind: api.FThen, Kids: kids}, {Kind: api.FOr, Kids: kids}}}
	p := places{seen: map[any]int{}}
	newPlaces(&p, kids)
	p.list(boxed(t, f).Kids)
	if p.shared > 0 {
		t.Error("what is at several nodes is at several nodes of the answer")
	}
}

func TestNamesAreNotKept(t *testing.T) {
	text := string([]byte("letters"))
	at := unsafe.StringData(text)
	_, m, _ := modlog.Decide(K, node(api.FNot, name(text)))
	g, _ := modlog.Boxed(name(text))
	for _, s := range []string{m.True[0][0], g.Kids[0].Name} {
		if s != text || unsafe.StringData(s) == at {
			t.Errorf("the name %q is kept", s)
		}
	}
}

// TestListsMayBeNil: nil and empty are the same.
func TestListsMayBeNil(t *testing.T) {
	want := answers(read(t, "~p & 1"))
	for _, kids := range [][]api.Formula{nil, {}, letters(1)[:0]} {
		p := api.Formula{Kind: api.FVar, Name: "p", Kids: kids}
		a := answers(node(api.FAnd, node(api.FNot, p), api.Formula{Kind: api.FTrue, Kids: kids}))
		if a.valid != want.valid || a.faults != want.faults || !reflect.DeepEqual(a.models, want.models) || text(a.boxed) != text(want.boxed) {
			t.Errorf("%v, want %v", a, want)
		}
	}
}

func TestAnswersHangOnArgumentsAlone(t *testing.T) {
	all := someFormulas(t)
	var first []answer
	for _, f := range all {
		first = append(first, answers(f))
	}
	for at, f := range slices.Backward(all) {
		if a := answers(f); !reflect.DeepEqual(a, first[at]) {
			t.Errorf("%s: %v, and then %v", text(f), first[at], a)
		}
	}
}
