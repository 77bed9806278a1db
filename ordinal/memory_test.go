package ordinal_test

import (
	"math/rand"
	"reflect"
	"slices"
	"testing"

	"sequent/api"
	"sequent/ordinal"
)

// question is one for all calls.
type question struct {
	a, b     api.Ordinal
	n, steps int
	cut      cut
}

// answer has what all calls say of a question.
type answer struct {
	cmp      int
	text     string
	ordinals []api.Ordinal
	numbers  []string
	beside   []api.Ordinal
	hydra    api.Hydra
	faults   []api.Fault
}

func (q question) asked() (a answer) {
	ordinals := func(o api.Ordinal, f api.Fault) {
		a.ordinals, a.faults = append(a.ordinals, o), append(a.faults, f)
	}
	var f, g, h, i api.Fault
	a.cmp, f = ordinal.Cmp(q.a, q.b)
	a.text, g = ordinal.Text(q.a)
	a.numbers, a.beside, h = ordinal.Goodstein(q.n, q.steps)
	a.hydra, i = ordinal.Chop(q.cut.h, q.cut.way, q.cut.n)
	a.faults = append(a.faults, ordinal.Check(q.a), f, g, h, i)
	ordinals(ordinal.Add(q.a, q.b))
	ordinals(ordinal.Mul(q.a, q.b))
	ordinals(ordinal.Below(q.a, q.n))
	ordinals(ordinal.Measure(q.cut.h))
	return a
}

// manyQuestions are right and wrong.
func manyQuestions() []question {
	chance := rand.New(rand.NewSource(12))
	var l []question
	for range 1500 {
		q := question{someOrdinal(chance, 15), someOrdinal(chance, 15), chance.Intn(30), chance.Intn(9), someChop(chance)}
		switch chance.Intn(8) {
		case 0:
			q.a = marred(chance, 12)
		case 1:
			q.b = marred(chance, 12)
		case 2:
			q.n, q.steps = chance.Intn(40)-10, chance.Intn(200)-60
		case 3:
			q.b = q.a
		}
		l = append(l, q)
	}
	return l
}

func TestQuestionsAreOfManyKinds(t *testing.T) {
	right, wrong := make([]int, 9), make([]int, 9)
	for _, q := range manyQuestions() {
		for call, f := range q.asked().faults {
			if f == (api.Fault{}) {
				right[call]++
			} else {
				wrong[call]++
			}
		}
	}
	// No hydra is wrong by itself.
	if slices.Min(right) < 500 || slices.Min(wrong[:8]) < 50 {
		t.Errorf("%v are right, %v are wrong", right, wrong)
	}
}

// withBehind is l with something behind its length, which must be neither read nor written.
func withBehind[T any](l []T, behind T) []T {
	return append(slices.Clone(l), behind, behind)[:len(l)]
}

func roomy(a api.Ordinal) api.Ordinal {
	var l []api.Part
	for _, p := range a.Parts {
		l = append(l, api.Part{Exp: roomy(p.Exp), Many: p.Many})
	}
	return api.Ordinal{Parts: withBehind(l, api.Part{Exp: number(7), Many: -7})}
}

func roomyHydra(h api.Hydra) api.Hydra {
	var l []api.Hydra
	for _, k := range h.Kids {
		l = append(l, roomyHydra(k))
	}
	return api.Hydra{Kids: withBehind(l, brush(7))}
}

// whole copies an ordinal with what lies behind the lengths of its lists.
func whole(a api.Ordinal) api.Ordinal {
	l := slices.Clone(a.Parts[:cap(a.Parts)])
	for i, p := range l {
		l[i].Exp = whole(p.Exp)
	}
	return api.Ordinal{Parts: l}
}

func wholeHydra(h api.Hydra) api.Hydra {
	l := slices.Clone(h.Kids[:cap(h.Kids)])
	for i, k := range l {
		l[i] = wholeHydra(k)
	}
	return api.Hydra{Kids: l}
}

func (q question) roomy() question {
	way := withBehind(q.cut.way, 0)
	return question{roomy(q.a), roomy(q.b), q.n, q.steps, cut{roomyHydra(q.cut.h), way, q.cut.n}}
}

func (q question) whole() question {
	way := slices.Clone(q.cut.way[:cap(q.cut.way)])
	return question{whole(q.a), whole(q.b), q.n, q.steps, cut{wholeHydra(q.cut.h), way, q.cut.n}}
}

func TestListsAreOnlyRead(t *testing.T) {
	for _, q := range manyQuestions() {
		want, r := q.asked(), q.roomy()
		before := r.whole()
		if got := r.asked(); !reflect.DeepEqual(got, want) {
			t.Fatalf("%v: %v, want %v", q, got, want)
		}
		if !reflect.DeepEqual(r.whole(), before) {
			t.Fatalf("%v: it is changed", q)
		}
	}
}

// places has where the elements of lists lie, those behind their lengths, too.
type places map[any]int

func addPlaces[T any](p places, l []T) {
	all := l[:cap(l)]
	for i := range all {
		p[&all[i]]++
	}
}

func (p places) ordinal(a api.Ordinal) {
	addPlaces(p, a.Parts)
	for _, k := range a.Parts {
		p.ordinal(k.Exp)
	}
}

func (p places) hydra(h api.Hydra) {
	addPlaces(p, h.Kids)
	for _, k := range h.Kids {
		p.hydra(k)
	}
}

func (p places) answer(a answer) {
	for _, o := range slices.Concat(a.ordinals, a.beside) {
		p.ordinal(o)
	}
	addPlaces(p, a.numbers)
	addPlaces(p, a.beside)
	p.hydra(a.hydra)
}

// TestAnswersAreNewMemory: no two lists of answers share any, nor does one share any with what is handed in.
func TestAnswersAreNewMemory(t *testing.T) {
	for _, q := range manyQuestions() {
		p := places{}
		p.ordinal(copyOf(q.a))
		p.answer(q.asked())
		p.answer(q.asked())
		p.ordinal(q.a)
		if !reflect.DeepEqual(q.a, q.b) {
			p.ordinal(q.b)
		}
		p.hydra(q.cut.h)
		for _, n := range p {
			if n > 1 {
				t.Fatalf("%v: lists share memory", q)
			}
		}
	}
}

// TestSharedLists: what is handed in may stand in several places; what is answered does not.
func TestSharedLists(t *testing.T) {
	w := tower(2)
	a := row(power(row(power(w, 1), w), 2), power(w, 3), w)
	b := row(power(power(w, 1), 1), power(w, 1), w)
	twig := over(brush(2), brush(2))
	h := over(twig, twig, over(twig, twig))
	before := [3]string{text(t, a), text(t, b), hydraText(h)}
	p := places{}
	for _, c := range [][2]api.Ordinal{{a, a}, {a, b}, {b, a}, {b, b}} {
		sum, f := ordinal.Add(c[0], c[1])
		sameFault(t, "Add", f, api.Fault{})
		product, f := ordinal.Mul(c[0], c[1])
		sameFault(t, "Mul", f, api.Fault{})
		less, f := ordinal.Below(c[0], 3)
		sameFault(t, "Below", f, api.Fault{})
		for _, o := range []api.Ordinal{sum, product, less} {
			p.ordinal(o)
		}
	}
	p.ordinal(measured(t, h))
	got := chop(t, h, []int{2, 0, 1, 0}, 3)
	p.hydra(got)
	for _, n := range p {
		if n > 1 {
			t.Fatal("lists share memory")
		}
	}
	if hydraText(got) != chopAgain(hydraText(h), []int{2, 0, 1, 0}, 3) {
		t.Errorf("%s", hydraText(got))
	}
	if before != [3]string{text(t, a), text(t, b), hydraText(h)} {
		t.Error("what is handed in is changed")
	}
}

// TestAnswersHangOnTheArguments: what was asked in between does not matter.
func TestAnswersHangOnTheArguments(t *testing.T) {
	l := manyQuestions()
	var first []answer
	for _, q := range l {
		first = append(first, q.asked())
	}
	for i, q := range slices.Backward(l) {
		if got := q.asked(); !reflect.DeepEqual(got, first[i]) {
			t.Fatalf("%v: %v, then %v", q, first[i], got)
		}
	}
}

// emptied has empty lists for those that are nil, or the other way round.
func emptied(a api.Ordinal, empty []api.Part) api.Ordinal {
	out := api.Ordinal{Parts: empty}
	for _, p := range a.Parts {
		out.Parts = append(out.Parts, api.Part{Exp: emptied(p.Exp, empty), Many: p.Many})
	}
	return out
}

func emptiedHydra(h api.Hydra, empty []api.Hydra) api.Hydra {
	out := api.Hydra{Kids: empty}
	for _, k := range h.Kids {
		out.Kids = append(out.Kids, emptiedHydra(k, empty))
	}
	return out
}

func TestListsWithoutElements(t *testing.T) {
	for _, q := range manyQuestions() {
		none, empty := q, q
		none.a, none.b, none.cut.h = emptied(q.a, nil), emptied(q.b, nil), emptiedHydra(q.cut.h, nil)
		empty.a, empty.b, empty.cut.h = emptied(q.a, []api.Part{}), emptied(q.b, []api.Part{}), emptiedHydra(q.cut.h, []api.Hydra{})
		if len(q.cut.way) == 0 {
			none.cut.way, empty.cut.way = nil, []int{}
		}
		if got, want := empty.asked(), none.asked(); !reflect.DeepEqual(got, want) {
			t.Fatalf("%v: %v, want %v", q, got, want)
		}
	}
}
