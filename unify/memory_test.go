package unify_test

import (
	"math/rand"
	"reflect"
	"slices"
	"strings"
	"testing"
	"unsafe"

	"sequent/api"
	"sequent/unify"
)

// answer has what both calls say of a question.
type answer struct {
	unified, matched []api.Bind
	faults           [2]api.Fault
}

func (q question) asked() (a answer) {
	a.unified, a.faults[0] = unify.Unify(q.a, q.b)
	a.matched, a.faults[1] = unify.Match(q.a, q.b)
	return a
}

// lists are all that are answered.
func (a answer) lists() [][]api.Bind { return [][]api.Bind{a.unified, a.matched} }

// manyQuestions are right and wrong; many match, and many have names on both sides.
func manyQuestions() []question {
	chance := rand.New(rand.NewSource(7))
	var l []question
	for range 5000 {
		q := someQuestion(chance, 5, 4, "x", "y", "z", "u", "C")
		switch chance.Intn(4) {
		case 0:
			q.b = values{"x": byChance(chance, 2, "v", "w"), "y": byChance(chance, 2, "y", "z")}.inAll(q.a)
		case 1:
			q.a = append(q.a, []api.Word{{}, word("x", word("y")), word("x"), doubled(8)}[chance.Intn(4)])
			q.b = append(q.b, word("F", word("C")))
		}
		l = append(l, q)
	}
	return l
}

// TestQuestionsAreOfManyKinds: what the tests of memory ask is answered by both calls, and refused by both.
func TestQuestionsAreOfManyKinds(t *testing.T) {
	var answered, refused [2]int
	for _, q := range manyQuestions() {
		a := q.asked()
		for call, f := range a.faults {
			if f != (api.Fault{}) {
				refused[call]++
			} else if len(a.lists()[call]) > 1 {
				answered[call]++
			}
		}
	}
	if min(answered[0], answered[1], refused[0], refused[1]) < 400 {
		t.Errorf("they answer %v and refuse %v", answered, refused)
	}
}

// roomy are the words with lists that go on behind their lengths, with what must not stand there.
func roomy(l []api.Word) []api.Word {
	var out []api.Word
	for _, w := range l {
		out = append(out, api.Word{Name: w.Name, Args: roomy(w.Args)})
	}
	return append(out, word("BE HIND"), word("behind", word("x")))[:len(l)]
}

// whole copies a list with what lies behind the lengths in it.
func whole(l []api.Word) []api.Word {
	var out []api.Word
	for _, w := range l[:cap(l)] {
		out = append(out, api.Word{Name: w.Name, Args: whole(w.Args)})
	}
	return out
}

func TestListsAreOnlyRead(t *testing.T) {
	for _, q := range manyQuestions() {
		want, r := q.asked(), question{roomy(q.a), roomy(q.b)}
		ahead := question{whole(r.a), whole(r.b)}
		if got := r.asked(); !reflect.DeepEqual(got, want) {
			t.Fatalf("%s: %v, want %v", q.told(), got, want)
		}
		if now := (question{whole(r.a), whole(r.b)}); !reflect.DeepEqual(now, ahead) {
			t.Fatalf("%s: it is changed", q.told())
		}
	}
}

// places has where the elements of lists lie, those behind their lengths, too.
type places map[any]int

func addPlaces[T any](p places, l []T) {
	all := l[:cap(l)]
	for i := range all {
		p[&all[i]]++
	}
}

func (p places) words(l []api.Word) {
	addPlaces(p, l)
	for _, w := range l {
		p.words(w.Args)
	}
}

func (p places) answer(a answer) {
	for _, l := range a.lists() {
		addPlaces(p, l)
		for _, b := range l {
			p.words(b.Word.Args)
		}
	}
}

func (p places) areShared() bool {
	for _, n := range p {
		if n > 1 {
			return true
		}
	}
	return false
}

func TestAnswersAreNewMemory(t *testing.T) {
	for _, q := range manyQuestions() {
		p, r := places{}, question{roomy(q.a), roomy(q.b)}
		p.words(r.a)
		p.words(r.b)
		for range 2 {
			p.answer(r.asked())
		}
		if p.areShared() {
			t.Fatalf("%s: memory is shared", q.told())
		}
	}
}

// TestListsThatWereSharedAreNot: one list that stands at several places of what is handed in is at none of what is answered, nor is what several variables become.
func TestListsThatWereSharedAreNot(t *testing.T) {
	list := []api.Word{word("G", words("u", "v")...), word("C")}
	w := word("G", list...)
	q := question{words("x", "y", "z", "x"), []api.Word{w, w, word("G", w, w), w}}
	p, a := places{}, q.asked()
	if a.faults != [2]api.Fault{} || len(a.unified) != 3 || len(a.matched) != 3 {
		t.Fatalf("%v", a)
	}
	p.answer(a)
	if p.areShared() || p[&list[0]]+p[&list[1]]+p[&list[0].Args[0]] > 0 {
		t.Error("memory is shared")
	}
}

// TestOneListMayBeBoth: nothing that is made of a is seen in b.
func TestOneListMayBeBoth(t *testing.T) {
	l := readQuestion(t, "x=G(x,F(y)) C=H(z,z,x)")
	l.a = append(l.a, l.b...)
	got := question{l.a, l.a}.asked()
	if got.faults != [2]api.Fault{} || len(got.unified) != 0 || toldBinds(got.matched) != "x=x y=y z=z" {
		t.Errorf("%v", got)
	}
	got = question{l.a[:3], l.a[1:]}.asked()
	if want := [2]api.Fault{fault(api.ErrNone, 0), fault(api.ErrNone, 0)}; got.faults != want {
		t.Errorf("%v", got)
	}
	crossed := readQuestion(t, "x=y y=z").a
	l = question{append(crossed, words("z", "x")...), nil}
	if got := (question{l.a[:3], l.a[1:]}).asked(); got.faults != [2]api.Fault{} || len(got.unified) != 2 || toldBinds(got.matched) != "x=y y=z z=x" {
		t.Errorf("%v", got)
	}
}

// isWithin tells whether s is a piece of the memory of text.
func isWithin(s, text string) bool {
	at, from := uintptr(unsafe.Pointer(unsafe.StringData(s))), uintptr(unsafe.Pointer(unsafe.StringData(text)))
	return at >= from && at < from+uintptr(len(text))
}

func TestTextsAreNotKept(t *testing.T) {
	text := strings.Clone("first second Big Const third")
	part := strings.Fields(text)
	q := question{words(part[0], part[1], part[4]), []api.Word{word(part[2], word(part[3]), word(part[4])), word(part[4]), word(part[1])}}
	a := q.asked()
	if a.faults != [2]api.Fault{} || len(a.unified) != 2 || len(a.matched) != 3 {
		t.Fatalf("%v", a)
	}
	for _, l := range a.lists() {
		for _, b := range l {
			for _, w := range append(wordsIn([]api.Word{b.Word}), word(b.Name)) {
				if isWithin(w.Name, text) {
					t.Errorf("%q of what was handed in is kept", w.Name)
				}
			}
		}
	}
}

func TestAnswersHangOnArgumentsAlone(t *testing.T) {
	list := manyQuestions()
	var ahead []answer
	for _, q := range list {
		ahead = append(ahead, q.asked())
	}
	for at, q := range slices.Backward(list) {
		if a := q.asked(); !reflect.DeepEqual(a, ahead[at]) {
			t.Errorf("%s: %v, and then %v", q.told(), ahead[at], a)
		}
	}
}

// TestListsMayBeNil: nil and empty are the same, in both calls.
func TestListsMayBeNil(t *testing.T) {
	for _, l := range [][]api.Word{nil, {}, {word("BE HIND")}} {
		for _, m := range [][]api.Word{nil, {}, {word("BE HIND")}} {
			l, m := l[:0], m[:0]
			if got := (question{l, m}).asked(); got.faults != [2]api.Fault{} || len(got.unified)+len(got.matched) > 0 {
				t.Errorf("%v", got)
			}
			a := []api.Word{{Name: "x", Args: l}, {Name: "C", Args: l}, {Name: "x", Args: m}}
			b := []api.Word{{Name: "C", Args: m}, {Name: "C", Args: m}, {Name: "C", Args: l}}
			got := question{a, b}.asked()
			if got.faults != [2]api.Fault{} || toldBinds(got.unified) != "x=C" || toldBinds(got.matched) != "x=C" {
				t.Errorf("%v", got)
			}
		}
	}
}
