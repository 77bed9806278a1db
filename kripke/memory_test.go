package kripke_test

import (
	"math/rand"
	"reflect"
	"slices"
	"testing"
	"unsafe"

	"sequent/api"
	"sequent/kripke"
)

// roomy lists go on behind their lengths with what must not stand there.
func roomy[T any](l []T, bad T) []T {
	return append(slices.Clone(l), bad, bad, bad)[:len(l)]
}

func roomyFormulas(l []api.Formula) []api.Formula {
	var out []api.Formula
	for _, f := range l {
		f.Kids = roomyFormulas(f.Kids)
		out = append(out, f)
	}
	return roomy(out, api.Formula{Kind: -7, Name: "BEHIND"})
}

func roomyModel(m api.Model) api.Model {
	var names [][]string
	for _, l := range m.True {
		names = append(names, roomy(l, "BEHIND"))
	}
	return api.Model{N: m.N, Rel: roomy(m.Rel, [2]int{-1, 99}), True: roomy(names, []string{"BEHIND"})}
}

// everything copies formulas with what lies behind their lengths.
func everything(l []api.Formula) []api.Formula {
	var out []api.Formula
	for _, f := range l[:cap(l)] {
		f.Kids = everything(f.Kids)
		out = append(out, f)
	}
	return out
}

// everyName copies lists of names likewise.
func everyName(l [][]string) [][]string {
	var out [][]string
	for _, names := range l[:cap(l)] {
		out = append(out, slices.Clone(names[:cap(names)]))
	}
	return out
}

func someSequents(t *testing.T) []api.Sequent {
	all := []api.Sequent{{}}
	for _, text := range []string{"p => p", "=> p | ~p", "=> ~~(p | ~p)", "p | q => p", "p & q, p & q, ~~r => ~~(q & r)", "p -> q, q, q => p", "1, 1 =>", "0 => 1", "=> ~p | ~~p"} {
		all = append(all, sequent(t, text))
	}
	chance := rand.New(rand.NewSource(7))
	for range 300 {
		all = append(all, anySequent(chance, 1+chance.Intn(10)))
	}
	return all
}

// TestListsAreOnlyRead: neither what is handed in nor what lies behind it is changed, and nothing behind it is read.
func TestListsAreOnlyRead(t *testing.T) {
	for _, whole := range someSequents(t) {
		s := api.Sequent{Left: roomyFormulas(whole.Left), Right: roomyFormulas(whole.Right)}
		left, right := everything(s.Left), everything(s.Right)
		decided(t, s)
		if !reflect.DeepEqual(everything(s.Left), left) || !reflect.DeepEqual(everything(s.Right), right) {
			t.Errorf("%s is changed", told(s))
		}
	}
}

func TestModelsAreOnlyRead(t *testing.T) {
	chance := rand.New(rand.NewSource(8))
	for range 500 {
		whole := anyModel(chance, 1+chance.Intn(5), chance.Intn(3) > 0)
		f := anyFormula(chance, 1+chance.Intn(9), 3)
		want, fault := kripke.Forces(whole, f)
		m, kids := roomyModel(whole), roomyFormulas([]api.Formula{f})
		pairs, names, formulas := slices.Clone(m.Rel[:cap(m.Rel)]), everyName(m.True), everything(kids)
		if e := kripke.Check(m); e != (api.Fault{}) {
			t.Fatalf("%v: %v", m, e)
		}
		if l, e := kripke.Forces(m, kids[0]); e != fault || !slices.Equal(l, want) {
			t.Fatalf("%v: %v, %v, want %v, %v", m, l, e, want, fault)
		}
		if !slices.Equal(m.Rel[:cap(m.Rel)], pairs) || !reflect.DeepEqual(everyName(m.True), names) || !reflect.DeepEqual(everything(kids), formulas) {
			t.Fatalf("%v is changed", m)
		}
	}
}

// TestSidesOfOneList: Left and Right may be pieces of one list, and share their Kids.
func TestSidesOfOneList(t *testing.T) {
	f := read(t, "~p | (p & q)")
	l := []api.Formula{f, name("p"), f, name("q"), f}
	was := everything(l)
	_, _, valid := proved(t, api.Sequent{Left: l[:2], Right: l[3:4]})
	_, _, other := proved(t, api.Sequent{Left: l[:1], Right: l[2:3]})
	_, _, third := proved(t, api.Sequent{Left: l[:1], Right: l[3:4]})
	if !valid || !other || third {
		t.Errorf("%v, %v, %v", valid, other, third)
	}
	if !reflect.DeepEqual(everything(l), was) {
		t.Errorf("the list is changed: %v", l)
	}
}

func TestListsMayBeNil(t *testing.T) {
	none := []api.Formula{}
	for _, l := range [][]api.Formula{nil, none} {
		yes, no := api.Formula{Kind: api.FTrue, Kids: l}, api.Formula{Kind: api.FFalse, Kids: l}
		p := api.Formula{Kind: api.FVar, Name: "p", Kids: l}
		for _, c := range []struct {
			s    api.Sequent
			want bool
		}{
			{api.Sequent{Left: l, Right: none}, false},
			{api.Sequent{Left: l, Right: []api.Formula{yes}}, true},
			{api.Sequent{Left: []api.Formula{no}, Right: l}, true},
			{api.Sequent{Left: []api.Formula{p}, Right: []api.Formula{name("p")}}, true},
			{api.Sequent{Left: []api.Formula{p}, Right: l}, false},
		} {
			if _, _, valid := proved(t, c.s); valid != c.want {
				t.Errorf("%s: %v", told(c.s), valid)
			}
		}
	}
	for _, names := range [][]string{nil, {}} {
		m := api.Model{N: 2, Rel: [][2]int{{0, 0}, {1, 1}}, True: [][]string{names, {"p"}}}
		if l, e := kripke.Forces(m, name("p")); e != (api.Fault{}) || !slices.Equal(l, []bool{false, true}) {
			t.Errorf("%v, %v", l, e)
		}
	}
	for _, pairs := range [][][2]int{nil, {}} {
		refusedForcing(t, "no pairs", api.Model{N: 1, Rel: pairs, True: [][]string{nil}}, name("p"), fault(api.ErrForm, 0))
	}
}

// places has where each element of a list lies, those behind its length, too.
type places struct {
	seen   map[any]int
	shared int
}

// newPlaces tells whether the list's elements lie where no others did.
func newPlaces[T any](p *places, l []T) bool {
	all := l[:cap(l)]
	for i := range all {
		p.seen[&all[i]]++
		if p.seen[&all[i]] > 1 {
			p.shared++
			return false
		}
	}
	return true
}

func (p *places) list(l []api.Formula) {
	if newPlaces(p, l) {
		for _, f := range l {
			p.list(f.Kids)
		}
	}
}

func (p *places) proof(one api.Proof) {
	p.list(one.F.Kids)
	p.list(one.End.Left)
	p.list(one.End.Right)
	if newPlaces(p, one.Kids) {
		for _, k := range one.Kids {
			p.proof(k)
		}
	}
}

func (p *places) model(m api.Model) {
	newPlaces(p, m.Rel)
	newPlaces(p, m.True)
	for _, names := range m.True {
		newPlaces(p, names)
	}
}

// TestAnswersAreNewMemory: no two lists of an answer share any, nor one of them and one that was handed in.
func TestAnswersAreNewMemory(t *testing.T) {
	for _, s := range someSequents(t) {
		p := places{seen: map[any]int{}}
		s = api.Sequent{Left: roomyFormulas(s.Left), Right: roomyFormulas(s.Right)}
		p.list(s.Left)
		p.list(s.Right)
		for range 2 {
			proof, counter, _, _ := kripke.Prove(s)
			p.proof(proof)
			p.model(counter)
		}
		if p.shared > 0 {
			t.Fatalf("%s: memory is shared", told(s))
		}
	}
	p := places{seen: map[any]int{}}
	for range 2 {
		l, _ := kripke.Forces(fork(), name("p"))
		newPlaces(&p, l)
	}
	if p.shared > 0 {
		t.Error("what is forced shares memory")
	}
}

func TestNamesAreNotKept(t *testing.T) {
	text := string([]byte("letters"))
	at := unsafe.StringData(text)
	p, _, _, _ := kripke.Prove(api.Sequent{Left: []api.Formula{name(text)}, Right: []api.Formula{name(text)}})
	_, m, _, _ := kripke.Prove(api.Sequent{Left: []api.Formula{name(text)}})
	for _, s := range []string{p.F.Name, p.End.Left[0].Name, p.End.Right[0].Name, m.True[0][0]} {
		if s != text || unsafe.StringData(s) == at {
			t.Errorf("the name %q is kept", s)
		}
	}
}

func TestAnswersHangOnArgumentsAlone(t *testing.T) {
	all := someSequents(t)
	type answer struct {
		p       api.Proof
		counter api.Model
		valid   bool
		f       api.Fault
	}
	ask := func(s api.Sequent) (a answer) {
		a.p, a.counter, a.valid, a.f = kripke.Prove(s)
		return a
	}
	var first []answer
	for _, s := range all {
		first = append(first, ask(s))
	}
	for at, s := range slices.Backward(all) {
		if !reflect.DeepEqual(ask(s), first[at]) {
			t.Errorf("%s: another answer", told(s))
		}
	}
}
