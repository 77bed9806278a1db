package meaning_test

import (
	"math/rand"
	"reflect"
	"slices"
	"testing"
	"unsafe"

	"sequent/api"
	"sequent/meaning"
)

// withBehind is l with something behind its length, which must be neither read nor written.
func withBehind[T any](l []T, behind T) []T {
	return append(slices.Clone(l), behind, behind)[:len(l)]
}

// roomy is e with lists that go on behind their lengths, with what must not stand there.
func roomy(e api.Expr) api.Expr {
	out := api.Expr{Kind: e.Kind, Name: e.Name, Words: roomyWords(e.Words)}
	for _, k := range e.Kids {
		out.Kids = append(out.Kids, roomy(k))
	}
	out.Kids = withBehind(out.Kids, api.Expr{Kind: -7, Name: "BEHIND", Words: words("behind")})
	return out
}

func roomyWords(l []api.Word) []api.Word {
	var out []api.Word
	for _, w := range l {
		out = append(out, api.Word{Name: w.Name, Args: roomyWords(w.Args)})
	}
	return withBehind(out, word("BE HIND"))
}

func roomyStructure(s api.Structure) api.Structure {
	out := api.Structure{N: s.N}
	for _, f := range s.Funs {
		out.Funs = append(out.Funs, api.Fun{Name: f.Name, Arity: f.Arity, Table: withBehind(f.Table, -7)})
	}
	for _, p := range s.Preds {
		out.Preds = append(out.Preds, api.Pred{Name: p.Name, Arity: p.Arity, Bits: withBehind(p.Bits, true)})
	}
	out.Funs = withBehind(out.Funs, fun("BE HIND", -7, -7))
	out.Preds = withBehind(out.Preds, predicate("BE HIND", -7, 1))
	return out
}

func (q question) roomy() question {
	return question{roomyStructure(q.s), roomy(q.e), withBehind(q.names, "BEHIND"), withBehind(q.values, -7)}
}

// whole copies a list with what lies behind its length.
func whole[T any](l []T) []T { return slices.Clone(l[:cap(l)]) }

func wholeExpr(e api.Expr) api.Expr {
	out := api.Expr{Kind: e.Kind, Name: e.Name, Words: wholeWords(e.Words)}
	for _, k := range e.Kids[:cap(e.Kids)] {
		out.Kids = append(out.Kids, wholeExpr(k))
	}
	return out
}

func wholeWords(l []api.Word) []api.Word {
	var out []api.Word
	for _, w := range l[:cap(l)] {
		out = append(out, api.Word{Name: w.Name, Args: wholeWords(w.Args)})
	}
	return out
}

func wholeStructure(s api.Structure) api.Structure {
	out := api.Structure{N: s.N, Funs: whole(s.Funs), Preds: whole(s.Preds)}
	for i, f := range out.Funs {
		out.Funs[i].Table = whole(f.Table)
	}
	for i, p := range out.Preds {
		out.Preds[i].Bits = whole(p.Bits)
	}
	return out
}

func (q question) whole() question {
	return question{wholeStructure(q.s), wholeExpr(q.e), whole(q.names), whole(q.values)}
}

// answer has what all calls say of a question.
type answer struct {
	is             bool
	prenex, skolem api.Expr
	faults         [4]api.Fault
}

func (q question) asked() (a answer) {
	a.faults[0] = meaning.Check(q.s)
	a.is, a.faults[1] = meaning.Value(q.s, q.e, q.names, q.values)
	a.prenex, a.faults[2] = meaning.Prenex(q.e)
	a.skolem, a.faults[3] = meaning.Skolem(q.e)
	return a
}

// manyQuestions are right and wrong; about half of the expressions have no free variables.
func manyQuestions() []question {
	chance := rand.New(rand.NewSource(8))
	var l []question
	for range 1500 {
		q := someQuestion(chance)
		if chance.Intn(2) == 0 && count(q.e) < api.MaxNodes {
			q.e = closed(chance, q.e)
		}
		l = append(l, q)
	}
	return l
}

// TestQuestionsAreOfManyKinds: what the tests of memory ask is answered by all calls, and refused by all.
func TestQuestionsAreOfManyKinds(t *testing.T) {
	var answered, refused [4]int
	for _, q := range manyQuestions() {
		for call, f := range q.asked().faults {
			if f == (api.Fault{}) {
				answered[call]++
			} else {
				refused[call]++
			}
		}
	}
	for call := range 4 {
		if min(answered[call], refused[call]) < 100 {
			t.Errorf("call %d answers %d and refuses %d", call+1, answered[call], refused[call])
		}
	}
}

func TestListsAreOnlyRead(t *testing.T) {
	for _, q := range manyQuestions() {
		want, r := q.asked(), q.roomy()
		ahead := r.whole()
		if got := r.asked(); !reflect.DeepEqual(got, want) {
			t.Fatalf("%s: %v, want %v", told(q.e), got, want)
		}
		if !reflect.DeepEqual(r.whole(), ahead) {
			t.Fatalf("%s: it is changed", told(q.e))
		}
	}
}

// places has where the elements of lists lie, those behind their lengths, too.
type places map[any]int

func addPlaces[T any](p places, l []T) {
	all := l[:cap(l)]
	for i := range all {
		p[&all[i]]++
	}
}

func (p places) expr(e api.Expr) {
	p.words(e.Words)
	addPlaces(p, e.Kids)
	for _, k := range e.Kids {
		p.expr(k)
	}
}

func (p places) words(l []api.Word) {
	addPlaces(p, l)
	for _, w := range l {
		p.words(w.Args)
	}
}

func (p places) areShared() bool {
	for _, n := range p {
		if n > 1 {
			return true
		}
	}
	return false
}

func TestAnswersAreNewMemory(t *testing.T) {
	for _, q := range manyQuestions() {
		p, r := places{}, q.roomy()
		p.expr(r.e)
		for range 2 {
			a := r.asked()
			p.expr(a.prenex)
			p.expr(a.skolem)
		}
		if p.areShared() {
			t.Fatalf("%s: memory is shared", told(q.e))
		}
	}
}

// TestListsThatWereSharedAreNot: one list that stands at several places of what is handed in is at none of what is answered, nor is one function's list of places at two.
func TestListsThatWereSharedAreNot(t *testing.T) {
	list := []api.Word{word("G", words("x", "y")...), word("y")}
	leaf := pred("R", list...)
	kids := []api.Expr{all("x", some("y", leaf)), all("x", some("y", and(leaf, leaf)))}
	e := or(api.Expr{Kind: api.EAnd, Kids: kids}, api.Expr{Kind: api.EThen, Kids: kids})
	for what, call := range map[string]func(api.Expr) (api.Expr, api.Fault){"Prenex": meaning.Prenex, "Skolem": meaning.Skolem} {
		out, f := call(e)
		sameFault(t, what, f, api.Fault{})
		p := places{}
		p.expr(out)
		if p.areShared() || p[&list[0]]+p[&list[1]]+p[&list[0].Args[0]]+p[&kids[0]] > 0 {
			t.Errorf("%s: memory is shared", what)
		}
	}
}

// isWithin tells whether s is a piece of the memory of text.
func isWithin(s, text string) bool {
	at, from := uintptr(unsafe.Pointer(unsafe.StringData(s))), uintptr(unsafe.Pointer(unsafe.StringData(text)))
	return at >= from && at < from+uintptr(len(text))
}

func namesOf(e api.Expr) []string {
	var l []string
	for _, x := range exprs(e) {
		l = append(l, x.Name)
	}
	for _, w := range wordsIn(e) {
		l = append(l, w.Name)
	}
	return slices.DeleteFunc(l, func(s string) bool { return s == "" })
}

func TestTextsAreNotKept(t *testing.T) {
	e := read(t, "!bound ?some (Big(bound, Fun(some)) & ~!bound Big(bound, Const)) | ?bound Big(bound, bound)")
	for what, call := range map[string]func(api.Expr) (api.Expr, api.Fault){"Prenex": meaning.Prenex, "Skolem": meaning.Skolem} {
		out, f := call(e)
		sameFault(t, what, f, api.Fault{})
		for _, s := range namesOf(e) {
			for _, answered := range namesOf(out) {
				if isWithin(answered, s) {
					t.Errorf("%s: %q of what was handed in is kept", what, s)
				}
			}
		}
	}
}

func TestAnswersHangOnArgumentsAlone(t *testing.T) {
	list := manyQuestions()
	var ahead []answer
	for _, q := range list {
		ahead = append(ahead, q.asked())
	}
	for at, q := range slices.Backward(list) {
		if a := q.asked(); !reflect.DeepEqual(a, ahead[at]) {
			t.Errorf("%s: %v, and then %v", told(q.e), ahead[at], a)
		}
	}
}

// TestListsMayBeNil: nil and empty are the same, in all calls.
func TestListsMayBeNil(t *testing.T) {
	want := question{api.Structure{N: 2, Preds: preds(2, "Q")}, all("x", pred("Q")), nil, nil}.asked()
	if want.faults != [4]api.Fault{} {
		t.Fatalf("%v", want.faults)
	}
	for _, l := range [][]api.Word{nil, {}, {word("BE HIND")}} {
		for _, k := range [][]api.Expr{nil, {}, {node(-7)}} {
			for _, f := range [][]api.Fun{nil, {}, {fun("BE HIND", -7)}} {
				s := api.Structure{N: 2, Funs: f[:0], Preds: preds(2, "Q")}
				leaf := api.Expr{Kind: api.EPred, Name: "Q", Words: l[:0], Kids: k[:0]}
				e := api.Expr{Kind: api.EAll, Name: "x", Words: l[:0], Kids: []api.Expr{leaf}}
				if got := (question{s, e, []string{}, []int{}}).asked(); !reflect.DeepEqual(got, want) {
					t.Errorf("%v, want %v", got, want)
				}
			}
		}
	}
	none := []api.Structure{{N: 2}, {N: 2, Funs: []api.Fun{}, Preds: []api.Pred{}}, {N: 2, Preds: preds(2, "Q")[:0]}}
	for _, s := range none {
		sameFault(t, "no lists", meaning.Check(s), api.Fault{})
		s.Preds = []api.Pred{{Name: "P", Arity: 1, Bits: []bool{}}}
		sameFault(t, "no bits", meaning.Check(s), fault(api.ErrSize, 0))
		s.Preds[0].Bits = nil
		sameFault(t, "nil bits", meaning.Check(s), fault(api.ErrSize, 0))
	}
}
