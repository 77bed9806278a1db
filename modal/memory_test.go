package modal_test

import (
	"math/rand"
	"reflect"
	"slices"
	"testing"

	"sequent/api"
	"sequent/modal"
)

// roomy lists go on behind their lengths with what must not stand there.
func roomy[T any](l []T, bad T) []T {
	return append(slices.Clone(l), bad, bad, bad)[:len(l)]
}

func roomyFormulas(l []api.Formula) []api.Formula {
	var out []api.Formula
	for _, f := range l {
		f.Kids = roomyFormulas(f.Kids)
		out = append(out, f)
	}
	return roomy(out, api.Formula{Kind: -7, Name: "BEHIND"})
}

func roomyModel(m api.Model) api.Model {
	var names [][]string
	for _, l := range m.True {
		names = append(names, roomy(l, "BEHIND"))
	}
	return api.Model{N: m.N, Rel: roomy(m.Rel, [2]int{-1, 99}), True: roomy(names, []string{"BEHIND"})}
}

// everything copies formulas with what lies behind their lengths.
func everything(l []api.Formula) []api.Formula {
	var out []api.Formula
	for _, f := range l[:cap(l)] {
		f.Kids = everything(f.Kids)
		out = append(out, f)
	}
	return out
}

// everyName copies lists of names likewise.
func everyName(l [][]string) [][]string {
	var out [][]string
	for _, names := range l[:cap(l)] {
		out = append(out, slices.Clone(names[:cap(names)]))
	}
	return out
}

// question is a model and a formula, of which all calls are asked.
type question struct {
	m api.Model
	f api.Formula
}

type answer struct {
	worlds []bool
	holds  bool
	shape  [6]bool
	faults [3]api.Fault
}

func (q question) asked() (a answer) {
	a.worlds, a.faults[0] = modal.Eval(q.m, q.f)
	a.holds, a.faults[1] = modal.Holds(q.m, q.f)
	a.shape, a.faults[2] = modal.Shape(q.m)
	return a
}

func someQuestions(t *testing.T) []question {
	t.Helper()
	shared := read(t, "[]p -> <>q")
	all := []question{
		{odd(), node(api.FAnd, shared, node(api.FBox, shared))},
		{seeing(""), node(api.FTrue)},
		{ring(40), below(api.FDia, 199, name("p"))},
		{api.Model{}, name("p")},
		{odd(), api.Formula{}},
	}
	chance := rand.New(rand.NewSource(6))
	for range 400 {
		m := anyModel(chance, 1+chance.Intn(5), "p", "q")
		all = append(all, question{m, anyFormula(chance, 1+chance.Intn(12), "p", "q", "r")})
	}
	return all
}

// TestListsAreOnlyRead: neither what is handed in nor what lies behind it is changed, and nothing behind it is read.
func TestListsAreOnlyRead(t *testing.T) {
	for _, q := range someQuestions(t) {
		want := q.asked()
		m, formulas := roomyModel(q.m), roomyFormulas([]api.Formula{q.f})
		pairs, names, nodes := slices.Clone(m.Rel[:cap(m.Rel)]), everyName(m.True), everything(formulas)
		if a := (question{m, formulas[0]}).asked(); !reflect.DeepEqual(a, want) {
			t.Fatalf("%v, %s: %v, want %v", m, text(q.f), a, want)
		}
		if !slices.Equal(m.Rel[:cap(m.Rel)], pairs) || !reflect.DeepEqual(everyName(m.True), names) || !reflect.DeepEqual(everything(formulas), nodes) {
			t.Fatalf("%v, %s: it is changed", m, text(q.f))
		}
	}
}

// TestAnswersAreNewMemory: what is done to one answer is not seen in the next.
func TestAnswersAreNewMemory(t *testing.T) {
	for _, q := range someQuestions(t) {
		want := q.asked()
		spoilt := q.asked()
		for w := range spoilt.worlds {
			spoilt.worlds[w] = !spoilt.worlds[w]
		}
		if a := q.asked(); !reflect.DeepEqual(a, want) {
			t.Fatalf("%v, %s: %v, want %v", q.m, text(q.f), a, want)
		}
		for w := range want.worlds {
			if &want.worlds[w] == &spoilt.worlds[w] {
				t.Fatal("two answers share memory")
			}
		}
	}
}

// TestWorldsThatShareTheirNames: one list may stand at several worlds.
func TestWorldsThatShareTheirNames(t *testing.T) {
	names := []string{"p", "q", "r"}
	m := seeing("1", "2", "0")
	m.True = [][]string{names[:2], names[1:], names[:1]}
	for f, want := range map[string]string{"p": "101", "q": "110", "r": "010", "[]r": "100", "<>p": "011"} {
		if l := evaluated(t, m, read(t, f)); worlds(l) != want {
			t.Errorf("%s: %v", f, l)
		}
	}
	if !slices.Equal(names, []string{"p", "q", "r"}) {
		t.Errorf("names: %v", names)
	}
}

// TestListsMayBeNil: nil and empty are the same.
func TestListsMayBeNil(t *testing.T) {
	var first []answer
	for _, kids := range [][]api.Formula{nil, {}, letters(1)[:0]} {
		p := api.Formula{Kind: api.FVar, Name: "p", Kids: kids}
		no := api.Formula{Kind: api.FFalse, Kids: kids}
		f := node(api.FThen, node(api.FBox, p), node(api.FDia, no))
		for _, pairs := range [][][2]int{nil, {}, {{5, 5}}} {
			for _, names := range [][]string{nil, {}, {"P"}} {
				q := question{api.Model{N: 2, Rel: pairs[:0], True: [][]string{names[:0], names[:0]}}, f}
				first = append(first, q.asked())
			}
		}
	}
	want := answer{worlds: []bool{false, false}, shape: [6]bool{1: true, 2: true, 3: true, 5: true}}
	for _, a := range first {
		if !reflect.DeepEqual(a, want) {
			t.Errorf("%v, want %v", a, want)
		}
	}
}

func TestAnswersHangOnArgumentsAlone(t *testing.T) {
	all := someQuestions(t)
	var first []answer
	for _, q := range all {
		first = append(first, q.asked())
	}
	for at, q := range slices.Backward(all) {
		if a := q.asked(); !reflect.DeepEqual(a, first[at]) {
			t.Errorf("%v, %s: %v, and then %v", q.m, text(q.f), first[at], a)
		}
	}
}
