package bisim_test

import (
	"math/rand"
	"reflect"
	"slices"
	"testing"
	"unsafe"

	"sequent/api"
	"sequent/bisim"
)

// roomy lists go on behind their lengths with what must not stand there.
func roomy[T any](l []T, bad T) []T {
	return append(slices.Clone(l), bad, bad, bad)[:len(l)]
}

func roomyModel(m api.Model) api.Model {
	var names [][]string
	for _, l := range m.True {
		names = append(names, roomy(l, "BEHIND"))
	}
	return api.Model{N: m.N, Rel: roomy(m.Rel, [2]int{-1, 99}), True: roomy(names, []string{"BEHIND"})}
}

// everyName copies lists of names with what lies behind their lengths.
func everyName(l [][]string) [][]string {
	var out [][]string
	for _, names := range l[:cap(l)] {
		out = append(out, slices.Clone(names[:cap(names)]))
	}
	return out
}

// question is a model with two worlds, of which all calls are asked.
type question struct {
	m    api.Model
	u, v int
}

type answer struct {
	classes []int
	small   api.Model
	f       api.Formula
	faults  [3]api.Fault
}

func (q question) asked() (a answer) {
	a.classes, a.faults[0] = bisim.Classes(q.m)
	a.small, a.faults[1] = bisim.Shrink(q.m)
	a.f, a.faults[2] = bisim.Tell(q.m, q.u, q.v)
	return a
}

func someQuestions() []question {
	all := []question{
		{seeing(""), 0, 0},
		{seeing("1", ""), 0, 1},
		{seeing("1", ""), 1, 0},
		{having(seeing("1", "", "31", ""), "", "p", "", "pp"), 0, 2},
		{having(seeing("3412", "1", "", "0", "123"), "qp", "pqp", "r", "", "ppp"), 0, 4},
		{line(40), 0, 1},
		{tooHard(), 28, 29},
		{tooHard(), 29, 27},
		{tooHard(), 30, 35},
		{api.Model{}, 0, 0},
		{seeing("9"), 0, 0},
		{seeing(""), 1, 0},
	}
	for _, m := range hard() {
		all = append(all, question{m, 0, m.N - 1}, question{m, 2, 0})
	}
	chance := rand.New(rand.NewSource(13))
	for range 400 {
		m := someModel(chance, 10)
		all = append(all, question{m, chance.Intn(m.N), chance.Intn(m.N)})
	}
	return all
}

// TestListsAreOnlyRead: neither what is handed in nor what lies behind it is changed, and nothing behind it is read.
func TestListsAreOnlyRead(t *testing.T) {
	for _, q := range someQuestions() {
		want := q.asked()
		m := roomyModel(q.m)
		pairs, names := slices.Clone(m.Rel[:cap(m.Rel)]), everyName(m.True)
		if a := (question{m, q.u, q.v}).asked(); !reflect.DeepEqual(a, want) {
			t.Fatalf("%v: %v, want %v", m, a, want)
		}
		if !slices.Equal(m.Rel[:cap(m.Rel)], pairs) || !reflect.DeepEqual(everyName(m.True), names) {
			t.Fatalf("%v: it is changed", m)
		}
	}
}

// places has where each element of a list lies, those behind its length, too.
type places struct {
	seen   map[any]int
	shared int
}

// newPlaces tells whether the list's elements lie where no others did.
func newPlaces[T any](p *places, l []T) bool {
	all := l[:cap(l)]
	for i := range all {
		p.seen[&all[i]]++
		if p.seen[&all[i]] > 1 {
			p.shared++
			return false
		}
	}
	return true
}

func (p *places) formulas(l []api.Formula) {
	if newPlaces(p, l) {
		for _, f := range l {
			p.formulas(f.Kids)
		}
	}
}

func (p *places) model(m api.Model) {
	newPlaces(p, m.Rel)
	newPlaces(p, m.True)
	for _, names := range m.True {
		newPlaces(p, names)
	}
}

// TestAnswersAreNewMemory: no two lists of an answer share any, nor one of them and one that was handed in.
func TestAnswersAreNewMemory(t *testing.T) {
	for _, q := range someQuestions() {
		p := places{seen: map[any]int{}}
		q.m = roomyModel(q.m)
		p.model(q.m)
		for range 2 {
			a := q.asked()
			newPlaces(&p, a.classes)
			p.model(a.small)
			p.formulas(a.f.Kids)
		}
		if p.shared > 0 {
			t.Fatalf("%v: memory is shared", q.m)
		}
	}
}

func TestNamesAreNotKept(t *testing.T) {
	text := string([]byte("letters"))
	at := unsafe.StringData(text)
	m := api.Model{N: 2, True: [][]string{{text}, nil}}
	if s := shrunk(t, m); unsafe.StringData(s.True[0][0]) == at {
		t.Error("Shrink: the name is kept")
	}
	if f, _ := told(t, m, 0, 1, false); f.Kind != api.FVar || unsafe.StringData(f.Name) == at {
		t.Errorf("Tell: %v: the name is kept", f)
	}
}

// TestWorldsThatShareTheirNames: one list may stand at several worlds.
func TestWorldsThatShareTheirNames(t *testing.T) {
	names := []string{"r", "q", "p", "q"}
	m := seeing("1", "2", "0", "")
	m.True = [][]string{names[:2], names[1:], names[2:], names[1:3]}
	classed(t, m)
	shrunk(t, m)
	toldAll(t, m)
	if !slices.Equal(names, []string{"r", "q", "p", "q"}) {
		t.Errorf("names: %v", names)
	}
}

// TestListsMayBeNil: nil and empty are the same.
func TestListsMayBeNil(t *testing.T) {
	for _, pairs := range [][][2]int{nil, {}, {{5, 5}}} {
		for _, names := range [][]string{nil, {}, {"P"}} {
			m := api.Model{N: 3, Rel: pairs[:0], True: [][]string{names[:0], nil, {"p"}}}
			if l := classed(t, m); !slices.Equal(l, []int{0, 0, 1}) {
				t.Errorf("%v: %v", m, l)
			}
			shrunk(t, m)
			toldAll(t, m)
		}
	}
}

func TestAnswersHangOnArgumentsAlone(t *testing.T) {
	all := someQuestions()
	var first []answer
	for _, q := range all {
		first = append(first, q.asked())
	}
	for at, q := range slices.Backward(all) {
		if a := q.asked(); !reflect.DeepEqual(a, first[at]) {
			t.Errorf("%v: %v, and then %v", q.m, first[at], a)
		}
	}
}
