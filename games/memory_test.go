package games_test

import (
	"math/rand"
	"reflect"
	"slices"
	"strings"
	"testing"
	"unsafe"

	"sequent/api"
	"sequent/games"
)

// answer has what both calls say of a question.
type answer struct {
	is     bool
	e      api.Expr
	faults [2]api.Fault
}

func (q question) asked() (a answer) {
	a.is, a.faults[0] = games.Wins(q.a, q.b, q.n)
	a.e, a.faults[1] = games.Tell(q.a, q.b, q.n)
	return a
}

// manyQuestions are right and wrong.
func manyQuestions() []question {
	chance := rand.New(rand.NewSource(10))
	var l []question
	for range 1500 {
		q := someQuestion(chance)
		if chance.Intn(3) == 0 {
			q.a, q.b = likeness(chance, 3+chance.Intn(3), 4, symbol{"Q", 0}, symbol{"R", 2})
			q.n = 2 + chance.Intn(3)
		}
		l = append(l, q)
	}
	return l
}

// TestQuestionsAreOfManyKinds: what the tests of memory ask is answered by both calls, and refused by both.
func TestQuestionsAreOfManyKinds(t *testing.T) {
	won, toldOf, refused, large := 0, 0, 0, 0
	for _, q := range manyQuestions() {
		a := q.asked()
		switch {
		case a.faults[0] != (api.Fault{}):
			refused++
		case a.is:
			won++
		default:
			toldOf++
		}
		if len(exprs(a.e)) > 6 {
			large++
		}
	}
	if min(won, toldOf, refused, 2*large) < 100 {
		t.Errorf("%d are won, %d are not, %d are refused; %d large expressions", won, toldOf, refused, large)
	}
}

// withBehind is l with something behind its length, which must be neither read nor written.
func withBehind[T any](l []T, behind T) []T {
	return append(slices.Clone(l), behind, behind)[:len(l)]
}

func roomy(s api.Structure) api.Structure {
	out := api.Structure{N: s.N}
	for _, f := range s.Funs {
		out.Funs = append(out.Funs, api.Fun{Name: f.Name, Arity: f.Arity, Table: withBehind(f.Table, -7)})
	}
	for _, p := range s.Preds {
		out.Preds = append(out.Preds, api.Pred{Name: p.Name, Arity: p.Arity, Bits: withBehind(p.Bits, true)})
	}
	out.Funs = withBehind(out.Funs, api.Fun{Name: "BE HIND", Arity: -7, Table: []int{-7}})
	out.Preds = withBehind(out.Preds, api.Pred{Name: "BE HIND", Arity: -7, Bits: []bool{true}})
	return out
}

// whole copies a list with what lies behind its length.
func whole[T any](l []T) []T { return slices.Clone(l[:cap(l)]) }

func wholeStructure(s api.Structure) api.Structure {
	out := api.Structure{N: s.N, Funs: whole(s.Funs), Preds: whole(s.Preds)}
	for i, f := range out.Funs {
		out.Funs[i].Table = whole(f.Table)
	}
	for i, p := range out.Preds {
		out.Preds[i].Bits = whole(p.Bits)
	}
	return out
}

func TestListsAreOnlyRead(t *testing.T) {
	for _, q := range manyQuestions() {
		want, r := q.asked(), question{roomy(q.a), roomy(q.b), q.n}
		a, b := wholeStructure(r.a), wholeStructure(r.b)
		if got := r.asked(); !reflect.DeepEqual(got, want) {
			t.Fatalf("%v: %v, want %v", q, got, want)
		}
		if !reflect.DeepEqual(wholeStructure(r.a), a) || !reflect.DeepEqual(wholeStructure(r.b), b) {
			t.Fatalf("%v: it is changed", q)
		}
	}
}

// places has where the elements of lists lie, those behind their lengths, too.
type places map[any]int

func addPlaces[T any](p places, l []T) {
	all := l[:cap(l)]
	for i := range all {
		p[&all[i]]++
	}
}

func (p places) expr(e api.Expr) {
	addPlaces(p, e.Words)
	addPlaces(p, e.Kids)
	for _, w := range e.Words {
		addPlaces(p, w.Args)
	}
	for _, k := range e.Kids {
		p.expr(k)
	}
}

func TestAnswersAreNewMemory(t *testing.T) {
	for _, q := range manyQuestions() {
		p := places{}
		p.expr(q.asked().e)
		p.expr(q.asked().e)
		for _, n := range p {
			if n > 1 {
				t.Fatalf("%v: lists share memory", q)
			}
		}
	}
}

// TestTextsAreNotKept: the names in an answer lie elsewhere than those handed in.
func TestTextsAreNotKept(t *testing.T) {
	for _, q := range manyQuestions() {
		handed := map[*byte]bool{}
		for _, s := range []*api.Structure{&q.a, &q.b} {
			s.Preds = slices.Clone(s.Preds)
			for i := range s.Preds {
				s.Preds[i].Name = strings.Clone(s.Preds[i].Name)
				handed[unsafe.StringData(s.Preds[i].Name)] = s.Preds[i].Name != ""
			}
		}
		for _, e := range exprs(q.asked().e) {
			if e.Name != "" && handed[unsafe.StringData(e.Name)] {
				t.Fatalf("%v: the name %s is kept", q, e.Name)
			}
		}
	}
}

// TestAnswersHangOnTheArguments: what was asked in between does not matter.
func TestAnswersHangOnTheArguments(t *testing.T) {
	l := manyQuestions()
	var first []answer
	for _, q := range l {
		first = append(first, q.asked())
	}
	for i, q := range slices.Backward(l) {
		if got := q.asked(); !reflect.DeepEqual(got, first[i]) {
			t.Fatalf("%v: %v, then %v", q, first[i], got)
		}
	}
}

// TestListsWithoutElements may be nil or empty.
func TestListsWithoutElements(t *testing.T) {
	for n := range 5 {
		empty := api.Structure{N: 2, Funs: []api.Fun{}, Preds: []api.Pred{}}
		asked(t, empty, things(2), n, true)
		asked(t, empty, things(3), n, n < 3)
		s := row(3)
		s.Funs = []api.Fun{}
		asked(t, s, row(3), n, true)
		asked(t, s, row(2), n, n < 2)
	}
}

// TestSharedLists: two structures may have one list, and two predicates one list of bits.
func TestSharedLists(t *testing.T) {
	bits := row(3).Preds[0].Bits
	l := []api.Pred{{Name: "R", Arity: 2, Bits: bits}, {Name: "S", Arity: 2, Bits: bits}}
	a, b := api.Structure{N: 3, Preds: l}, api.Structure{N: 3, Preds: l}
	asked(t, a, b, 4, true)
	c := things(3, l[0], relation("S", 3, func(u, v int) bool { return u > v }))
	asked(t, a, c, 2, false)
	if !slices.Equal(bits, row(3).Preds[0].Bits) {
		t.Error("the bits are changed")
	}
}
