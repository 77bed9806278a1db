package classic_test

import (
	"math/rand"
	"reflect"
	"slices"
	"testing"
	"unsafe"

	"sequent/api"
	"sequent/classic"
)

// roomy formulas go on behind their lengths with what is no formula.
func roomy(l []api.Formula) []api.Formula {
	var out []api.Formula
	for _, f := range l {
		f.Kids = roomy(f.Kids)
		out = append(out, f)
	}
	bad := api.Formula{Kind: -7, Name: "BEHIND"}
	return append(out, bad, bad, bad)[:len(l)]
}

// everything copies formulas with what lies behind their lengths.
func everything(l []api.Formula) []api.Formula {
	var out []api.Formula
	for _, f := range l[:cap(l)] {
		f.Kids = everything(f.Kids)
		out = append(out, f)
	}
	return out
}

func someSequents(t *testing.T) []api.Sequent {
	all := []api.Sequent{{}, holes(2), holes(3)}
	for _, text := range []string{"p => p", "=> p | ~p", "p | q => p", "p & q, p & q, ~~r => q & r, p & q", "p -> q, q, q => p, 0", "1, 1 =>", "0 => 1"} {
		all = append(all, sequent(t, text))
	}
	chance := rand.New(rand.NewSource(7))
	for range 300 {
		all = append(all, anySequent(chance, 1+chance.Intn(40), 3))
	}
	return all
}

// TestListsAreOnlyRead: neither what is handed in nor what lies behind it is changed, and nothing behind it is read.
func TestListsAreOnlyRead(t *testing.T) {
	for _, whole := range someSequents(t) {
		s := api.Sequent{Left: roomy(whole.Left), Right: roomy(whole.Right)}
		left, right := everything(s.Left), everything(s.Right)
		proved(t, s)
		if !reflect.DeepEqual(everything(s.Left), left) || !reflect.DeepEqual(everything(s.Right), right) {
			t.Errorf("%s is changed", told(s))
		}
	}
}

// TestSidesOfOneList: Left and Right may be pieces of one list, and share their Kids.
func TestSidesOfOneList(t *testing.T) {
	f := read(t, "~p | (p & q)")
	l := []api.Formula{f, name("p"), f, name("q"), f}
	was := everything(l)
	_, _, valid, _ := proved(t, api.Sequent{Left: l[:2], Right: l[3:4]})
	_, _, other, _ := proved(t, api.Sequent{Left: l[:1], Right: l[1:4]})
	_, _, third, _ := proved(t, api.Sequent{Left: l[:1], Right: l[3:4]})
	if !valid || !other || third {
		t.Errorf("%v, %v, %v", valid, other, third)
	}
	if !reflect.DeepEqual(everything(l), was) {
		t.Errorf("the list is changed: %v", l)
	}
}

func TestListsMayBeNil(t *testing.T) {
	none := []api.Formula{}
	for _, l := range [][]api.Formula{nil, none} {
		yes, no := api.Formula{Kind: api.FTrue, Kids: l}, api.Formula{Kind: api.FFalse, Kids: l}
		p := api.Formula{Kind: api.FVar, Name: "p", Kids: l}
		for _, c := range []struct {
			s    api.Sequent
			want bool
		}{
			{api.Sequent{Left: l, Right: none}, false},
			{api.Sequent{Left: l, Right: []api.Formula{yes}}, true},
			{api.Sequent{Left: []api.Formula{no}, Right: l}, true},
			{api.Sequent{Left: []api.Formula{p}, Right: []api.Formula{name("p")}}, true},
			{api.Sequent{Left: []api.Formula{p}, Right: l}, false},
		} {
			if _, _, valid, _ := proved(t, c.s); valid != c.want {
				t.Errorf("%s: %v", told(c.s), valid)
			}
		}
	}
}

// places has where each element of a list lies, those behind its length, too.
type places struct {
	formulas map[*api.Formula]int
	proofs   map[*api.Proof]int
	shared   int
}

func (p *places) list(l []api.Formula) {
	all := l[:cap(l)]
	for i := range all {
		p.formulas[&all[i]]++
		if p.formulas[&all[i]] > 1 {
			p.shared++
			return
		}
	}
	for _, f := range l {
		p.list(f.Kids)
	}
}

func (p *places) proof(one api.Proof) {
	p.list(one.F.Kids)
	p.list(one.End.Left)
	p.list(one.End.Right)
	all := one.Kids[:cap(one.Kids)]
	for i := range all {
		p.proofs[&all[i]]++
		if p.proofs[&all[i]] > 1 {
			p.shared++
			return
		}
	}
	for _, k := range one.Kids {
		p.proof(k)
	}
}

// TestAnswersAreNewMemory: no two lists of an answer share any, nor one of them and one that was handed in.
func TestAnswersAreNewMemory(t *testing.T) {
	for _, s := range someSequents(t) {
		p := places{formulas: map[*api.Formula]int{}, proofs: map[*api.Proof]int{}}
		s = api.Sequent{Left: roomy(s.Left), Right: roomy(s.Right)}
		p.list(s.Left)
		p.list(s.Right)
		first, _, _, _ := classic.Prove(s)
		second, _, _, _ := classic.Prove(s)
		p.proof(first)
		p.proof(second)
		if p.shared > 0 {
			t.Fatalf("%s: memory is shared", told(s))
		}
	}
}

func TestNamesAreNotKept(t *testing.T) {
	text := string([]byte("letters"))
	at := unsafe.StringData(text)
	p, _, _, _ := classic.Prove(api.Sequent{Left: []api.Formula{name(text)}, Right: []api.Formula{name(text)}})
	_, counter, _, _ := classic.Prove(api.Sequent{Left: []api.Formula{name(text)}})
	for _, s := range []string{p.F.Name, p.End.Left[0].Name, p.End.Right[0].Name, counter[0]} {
		if s != text || unsafe.StringData(s) == at {
			t.Errorf("the name %q is kept", s)
		}
	}
}

func TestAnswersHangOnArgumentsAlone(t *testing.T) {
	all := someSequents(t)
	type answer struct {
		p       api.Proof
		counter []string
		valid   bool
		f       api.Fault
	}
	ask := func(s api.Sequent) (a answer) {
		a.p, a.counter, a.valid, a.f = classic.Prove(s)
		return a
	}
	var first []answer
	for _, s := range all {
		first = append(first, ask(s))
	}
	for at, s := range slices.Backward(all) {
		if !reflect.DeepEqual(ask(s), first[at]) {
			t.Errorf("%s: another answer", told(s))
		}
	}
}
