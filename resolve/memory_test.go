package resolve_test

import (
	"math/rand"
	"reflect"
	"slices"
	"strings"
	"testing"
	"unsafe"

	"sequent/api"
	"sequent/resolve"
)

// question is what all calls are asked.
type question struct {
	l     [][]api.Literal
	steps []api.Infer
}

// answer has what all calls say of a question.
type answer struct {
	steps  []api.Infer
	faults [3]api.Fault
}

func (q question) asked() (a answer) {
	a.faults[0] = resolve.Check(q.l)
	a.faults[1] = resolve.Replay(q.l, q.steps)
	a.steps, a.faults[2] = resolve.Refute(q.l)
	return a
}

// manyQuestions are right and wrong; many are refuted, some with steps that are given, too.
func manyQuestions() []question {
	chance := rand.New(rand.NewSource(8))
	var l []question
	for len(l) < 300 {
		q := question{l: someList(chance, 3+chance.Intn(8), 3, 1, "x", "y", "C", "D")}
		switch chance.Intn(6) {
		case 0:
			q.l = append(q.l, []api.Literal{literal("P", word("x", word("y")))})
		case 1:
			q.l = append(q.l, nil)
		case 2:
			q.l = append(q.l, []api.Literal{literal("P", word("x"))}, []api.Literal{opposite(literal("P", word("F", word("y"))))})
		}
		for range 6 {
			s := someStep(chance, q.l, q.steps)
			if stepCode(q.l, q.steps, s) != api.ErrRange {
				s.Clause, _ = comes(q.l, q.steps, s)
				s.Clause = values{}.inClause(s.Clause)
			}
			q.steps = append(q.steps, s)
		}
		if chance.Intn(2) == 0 {
			q.steps, _ = resolve.Refute(q.l)
		}
		l = append(l, q)
	}
	return l
}

// TestQuestionsAreOfManyKinds: what the tests of memory ask is answered by all calls, and refused by all.
func TestQuestionsAreOfManyKinds(t *testing.T) {
	var answered, refused [3]int
	for _, q := range manyQuestions() {
		for call, f := range q.asked().faults {
			if f != (api.Fault{}) {
				refused[call]++
			} else {
				answered[call]++
			}
		}
	}
	if min(answered[0], answered[1], answered[2], refused[0], refused[1], refused[2]) < 40 {
		t.Errorf("they answer %v and refuse %v", answered, refused)
	}
}

// roomyWords are the words with lists that go on behind their lengths, with what must not stand there.
func roomyWords(l []api.Word) []api.Word {
	var out []api.Word
	for _, w := range l {
		out = append(out, api.Word{Name: w.Name, Args: roomyWords(w.Args)})
	}
	return append(out, word("BE HIND"), word("behind", word("x")))[:len(l)]
}

func roomyClause(c []api.Literal) []api.Literal {
	var out []api.Literal
	for _, k := range c {
		out = append(out, api.Literal{Not: k.Not, Name: k.Name, Words: roomyWords(k.Words)})
	}
	return append(out, literal("be hind"), literal("P", word("")))[:len(c)]
}

func (q question) roomy() (out question) {
	for _, c := range q.l {
		out.l = append(out.l, roomyClause(c))
	}
	for _, s := range q.steps {
		s.Clause = roomyClause(s.Clause)
		out.steps = append(out.steps, s)
	}
	out.l = append(out.l, nil, []api.Literal{{}})[:len(q.l)]
	out.steps = append(out.steps, api.Infer{Kind: 7})[:len(q.steps)]
	return out
}

// wholeWords copy a list with what lies behind the lengths in it.
func wholeWords(l []api.Word) []api.Word {
	var out []api.Word
	for _, w := range l[:cap(l)] {
		out = append(out, api.Word{Name: w.Name, Args: wholeWords(w.Args)})
	}
	return out
}

func wholeClause(c []api.Literal) []api.Literal {
	var out []api.Literal
	for _, k := range c[:cap(c)] {
		out = append(out, api.Literal{Not: k.Not, Name: k.Name, Words: wholeWords(k.Words)})
	}
	return out
}

func (q question) whole() (out question) {
	for _, c := range q.l[:cap(q.l)] {
		out.l = append(out.l, wholeClause(c))
	}
	for _, s := range q.steps[:cap(q.steps)] {
		s.Clause = wholeClause(s.Clause)
		out.steps = append(out.steps, s)
	}
	return out
}

func TestListsAreOnlyRead(t *testing.T) {
	for _, q := range manyQuestions() {
		want, r := q.asked(), q.roomy()
		ahead := r.whole()
		if got := r.asked(); !reflect.DeepEqual(got, want) {
			t.Fatalf("%s: %v, want %v", toldList(q.l), got, want)
		}
		if !reflect.DeepEqual(r.whole(), ahead) {
			t.Fatalf("%s: it is changed", toldList(q.l))
		}
	}
}

// places has where the elements of lists lie, those behind their lengths, too.
type places map[any]int

func addPlaces[T any](p places, l []T) {
	all := l[:cap(l)]
	for i := range all {
		p[&all[i]]++
	}
}

func (p places) words(l []api.Word) {
	addPlaces(p, l)
	for _, w := range l {
		p.words(w.Args)
	}
}

func (p places) clause(c []api.Literal) {
	addPlaces(p, c)
	for _, k := range c {
		p.words(k.Words)
	}
}

func (p places) list(l [][]api.Literal) {
	addPlaces(p, l)
	for _, c := range l {
		p.clause(c)
	}
}

func (p places) steps(l []api.Infer) {
	addPlaces(p, l)
	for _, s := range l {
		p.clause(s.Clause)
	}
}

func (p places) areShared() bool {
	for _, n := range p {
		if n > 1 {
			return true
		}
	}
	return false
}

func TestAnswersAreNewMemory(t *testing.T) {
	for _, q := range manyQuestions() {
		p, r := places{}, q.roomy()
		p.list(r.l)
		p.steps(r.steps)
		for range 2 {
			p.steps(r.asked().steps)
		}
		if p.areShared() {
			t.Fatalf("%s: memory is shared", toldList(q.l))
		}
	}
}

// TestListsThatWereSharedAreNot: one list that stands at several places of what is handed in is at none of what is answered.
func TestListsThatWereSharedAreNot(t *testing.T) {
	list := []api.Word{word("G", words("x", "y")...), word("C")}
	p := literal("P", list...)
	c := []api.Literal{p, opposite(literal("Q", list...)), p}
	l := [][]api.Literal{c, {opposite(p)}, {literal("Q", list...)}, {opposite(p)}, c}
	steps := refuted(t, "shared lists", l)
	all := places{}
	all.steps(steps)
	if all.areShared() || all[&list[0]]+all[&list[1]]+all[&list[0].Args[0]]+all[&c[0]] > 0 {
		t.Error("memory is shared")
	}
	if len(steps) < 5 {
		t.Errorf("%d steps", len(steps))
	}
}

// TestStepsMayHaveTheClausesOfTheList: what Replay is handed may lie in one memory.
func TestStepsMayHaveTheClausesOfTheList(t *testing.T) {
	l := readList(t, "P(x) P(y); ~P(x) ~P(y)")
	steps := []api.Infer{
		{Kind: 1, A: 0, Clause: l[0]},
		{Kind: 1, A: 1, Clause: l[1]},
		{Kind: 3, A: 0, I: 0, J: 1, Clause: l[0][:1]},
		{Kind: 3, A: 1, I: 1, J: 0, Clause: l[1][1:]},
		{Kind: 2, A: 3, B: 2, Clause: l[0][:0]},
	}
	sameFault(t, "one memory", resolve.Replay(l, steps), api.Fault{})
	if got := toldList(l); got != "P(x) P(y); ~P(x) ~P(y)" {
		t.Errorf("%s: it is changed", got)
	}
}

// isWithin tells whether s is a piece of the memory of text.
func isWithin(s, text string) bool {
	at, from := uintptr(unsafe.Pointer(unsafe.StringData(s))), uintptr(unsafe.Pointer(unsafe.StringData(text)))
	return at >= from && at < from+uintptr(len(text))
}

func TestTextsAreNotKept(t *testing.T) {
	text := strings.Clone("first second Big Const third Pred Other")
	n := strings.Fields(text)
	w := word(n[2], word(n[3]), word(n[0]))
	l := [][]api.Literal{
		{literal(n[5], w, word(n[1])), literal(n[6], word(n[1]))},
		{opposite(literal(n[5], word(n[4]), word(n[3])))},
		{opposite(literal(n[6], word(n[0])))},
	}
	for _, s := range refuted(t, "pieces of a text", l) {
		for _, k := range s.Clause {
			for _, w := range append(wordsIn(k.Words), word(k.Name)) {
				if isWithin(w.Name, text) {
					t.Errorf("%q of what was handed in is kept", w.Name)
				}
			}
		}
	}
}

func TestAnswersHangOnArgumentsAlone(t *testing.T) {
	list := manyQuestions()
	var ahead []answer
	for _, q := range list {
		ahead = append(ahead, q.asked())
	}
	for at, q := range slices.Backward(list) {
		if a := q.asked(); !reflect.DeepEqual(a, ahead[at]) {
			t.Errorf("%s: %v, and then %v", toldList(q.l), ahead[at], a)
		}
	}
}

// TestListsMayBeNil: nil and empty are the same, in all calls.
func TestListsMayBeNil(t *testing.T) {
	for _, c := range [][]api.Literal{nil, {}, {literal("p")}} {
		for _, w := range [][]api.Word{nil, {}, {word("BE HIND")}} {
			c, w := c[:0], w[:0]
			l := [][]api.Literal{{literal("P", api.Word{Name: "C", Args: w})}, {opposite(literal("P", word("C"))), literal("R", w...)}, {opposite(literal("R"))}}
			refuted(t, "empty lists", l)
			steps := readSteps(t, "1 0: P(C); 1 1: ~P(C) R; 2 0 1 0 0: R; 1 2: ~R; 2 2 3 0 0:")
			steps[4].Clause = c
			sameFault(t, "empty lists", resolve.Replay(l, steps), api.Fault{})
			sameFault(t, "an empty clause", resolve.Replay([][]api.Literal{c}, []api.Infer{{Kind: 1}}), api.Fault{})
			refuted(t, "an empty clause", [][]api.Literal{c})
		}
	}
	for _, l := range [][][]api.Literal{nil, {}, {{{}}}} {
		sameFault(t, "no clauses", resolve.Check(l[:0]), api.Fault{})
		sameFault(t, "no clauses", resolve.Replay(l[:0], nil), fault(api.ErrNone, 0))
		sameFault(t, "no steps", resolve.Replay(nil, []api.Infer{{}}[:0]), fault(api.ErrNone, 0))
		refused(t, "no clauses", l[:0], fault(api.ErrNone, 0))
	}
}
