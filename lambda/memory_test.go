package lambda_test

import (
	"math/rand"
	"reflect"
	"slices"
	"testing"
	"unsafe"

	"sequent/api"
	"sequent/lambda"
)

// roomy lists go on behind their lengths with what must not stand there.
func roomy[T any](l []T, bad T) []T {
	return append(slices.Clone(l), bad, bad, bad)[:len(l)]
}

func roomyFormulas(l []api.Formula) []api.Formula {
	var out []api.Formula
	for _, f := range l {
		f.Kids = roomyFormulas(f.Kids)
		out = append(out, f)
	}
	return roomy(out, api.Formula{Kind: -7, Name: "BEHIND"})
}

func roomyTerm(x api.Term) api.Term {
	x.Of.Kids = roomyFormulas(x.Of.Kids)
	var kids []api.Term
	for _, k := range x.Kids {
		kids = append(kids, roomyTerm(k))
	}
	x.Kids = roomy(kids, api.Term{Kind: -7, I: 9})
	return x
}

// everything copies formulas with what lies behind their lengths.
func everything(l []api.Formula) []api.Formula {
	var out []api.Formula
	for _, f := range l[:cap(l)] {
		f.Kids = everything(f.Kids)
		out = append(out, f)
	}
	return out
}

func everythingIn(x api.Term) api.Term {
	x.Of.Kids = everything(x.Of.Kids)
	var kids []api.Term
	for _, k := range x.Kids[:cap(x.Kids)] {
		kids = append(kids, everythingIn(k))
	}
	x.Kids = kids
	return x
}

// someTerms have steps to be done, or none; some have no type.
func someTerms() (ctx []api.Formula, all []api.Term) {
	ctx, all = settled()
	m := maker{rand.New(rand.NewSource(6))}
	for range 300 {
		x := m.term(ctx, m.formula(2), 1+m.chance.Intn(4))
		if sizeOf(x) < 300 {
			all = append(all, x, changed(m.chance, x))
		}
	}
	twice := lam("~p | (p -> 0)", left("~~p | ~p", lam("p", v(1))))
	return ctx, append(all, app(lam(level(2), times(2, v(0), v(2))), numeral(2, 0)), pair(twice, twice))
}

// someFormulas have terms, or none.
func someFormulas() []api.Formula {
	all := smallFormulas(4)
	chance := rand.New(rand.NewSource(7))
	for range 300 {
		all = append(all, nots(2, anyFormula(chance, 3+chance.Intn(9))))
	}
	return append(all, nots(2, doubled(api.FAnd, 4, read("p | ~p"))))
}

// TestListsAreOnlyRead: neither what is handed in nor what lies behind it is changed, and nothing behind it is read.
func TestListsAreOnlyRead(t *testing.T) {
	whole, all := someTerms()
	for _, plain := range all {
		ctx, x := roomyFormulas(whole), roomyTerm(plain)
		wasContext, was := everything(ctx), everythingIn(x)
		_, e := inferred(t, ctx, x)
		if e == (api.Fault{}) {
			out, _ := lambda.Normal(whole, plain)
			if !isSame(normal(t, ctx, x), out) {
				t.Errorf("%s: another answer with room behind the lists", told(x))
			}
		} else {
			refused(t, told(x), ctx, x, e)
		}
		if !reflect.DeepEqual(everything(ctx), wasContext) || !reflect.DeepEqual(everythingIn(x), was) {
			t.Errorf("%s is changed", told(x))
		}
	}
	for _, plain := range someFormulas() {
		l := roomyFormulas([]api.Formula{plain})
		was := everything(l)
		x, e := lambda.Inhabit(l[0])
		y, _ := lambda.Inhabit(plain)
		if !reflect.DeepEqual(everything(l), was) || e == (api.Fault{}) && !isSame(x, y) {
			t.Errorf("%s is changed, or answered otherwise", text(plain))
		}
	}
}

// places has where each element of a list lies, those behind its length, too.
type places struct {
	seen   map[any]int
	shared int
}

// newPlaces tells whether the list's elements lie where no others did.
func newPlaces[T any](p *places, l []T) bool {
	all := l[:cap(l)]
	for i := range all {
		p.seen[&all[i]]++
		if p.seen[&all[i]] > 1 {
			p.shared++
			return false
		}
	}
	return true
}

func (p *places) list(l []api.Formula) {
	if newPlaces(p, l) {
		for _, f := range l {
			p.list(f.Kids)
		}
	}
}

func (p *places) term(x api.Term) {
	p.list(x.Of.Kids)
	if newPlaces(p, x.Kids) {
		for _, k := range x.Kids {
			p.term(k)
		}
	}
}

// TestAnswersAreNewMemory: no two lists of an answer share any, nor one of them and one that was handed in, nor one of another answer.
func TestAnswersAreNewMemory(t *testing.T) {
	ctx, all := someTerms()
	for _, x := range all {
		p := places{seen: map[any]int{}}
		p.list(ctx)
		p.term(x)
		p.shared = 0 // what is handed in may share memory
		for range 2 {
			f, _ := lambda.Infer(ctx, x)
			out, _ := lambda.Normal(ctx, x)
			p.list(f.Kids)
			p.term(out)
		}
		if p.shared > 0 {
			t.Fatalf("%s: memory is shared", told(x))
		}
	}
	for _, f := range someFormulas() {
		p := places{seen: map[any]int{}}
		p.list(f.Kids)
		p.shared = 0
		for range 2 {
			x, _ := lambda.Inhabit(f)
			p.term(x)
		}
		if p.shared > 0 {
			t.Fatalf("%s: memory is shared", text(f))
		}
	}
}

// TestSharedListsComeApart: one list stands at many places of what is handed in, and what is put for a name at many places of what comes out.
func TestSharedListsComeApart(t *testing.T) {
	or := read("~p | ~p")
	or.Kids[1].Kids = or.Kids[0].Kids
	kids := []api.Term{v(0)}
	one := api.Term{Kind: api.TLeft, Of: or, Kids: kids}
	both := []api.Term{one, one}
	x := api.Term{Kind: api.TApp, Kids: []api.Term{{Kind: api.TLam, Of: or, Kids: []api.Term{pair(pair(v(0), v(0)), pair(v(0), v(0)))}}, one}}
	ctx := []api.Formula{or.Kids[0], or.Kids[0]}
	for _, y := range []api.Term{{Kind: api.TPair, Kids: both}, x} {
		out := normal(t, ctx, y)
		f, _ := inferred(t, ctx, y)
		p := places{seen: map[any]int{}}
		p.term(out)
		p.list(f.Kids)
		if p.shared > 0 {
			t.Errorf("%s: %d lists are shared", told(y), p.shared)
		}
	}
}

// TestNamesAreNotKept: names are new memory, too.
func TestNamesAreNotKept(t *testing.T) {
	word := string([]byte("letters"))
	at := unsafe.StringData(word)
	f := name(word)
	same := api.Term{Kind: api.TLam, Of: f, Kids: []api.Term{v(0)}}
	type1, _ := lambda.Infer([]api.Formula{f}, v(0))
	type2, _ := lambda.Infer(nil, same)
	out, _ := lambda.Normal(nil, same)
	x, _ := lambda.Inhabit(node(api.FThen, f, f))
	for _, s := range []string{type1.Name, type2.Kids[0].Name, type2.Kids[1].Name, out.Of.Name, x.Of.Name} {
		if s != word || unsafe.StringData(s) == at {
			t.Errorf("the name %q is kept", s)
		}
	}
}

// TestListsMayBeNil: nil and empty are the same.
func TestListsMayBeNil(t *testing.T) {
	for _, kids := range [][]api.Term{nil, {}, make([]api.Term, 3)[:0]} {
		for _, l := range [][]api.Formula{nil, {}, make([]api.Formula, 3)[:0]} {
			none := api.Formula{Kids: l}
			yes := api.Formula{Kind: api.FTrue, Kids: l}
			empty := api.Term{Kind: api.TUnit, Of: none, Kids: kids}
			one := api.Term{Kind: api.TVar, I: 0, Of: none, Kids: kids}
			x := api.Term{Kind: api.TApp, Of: none, Kids: []api.Term{{Kind: api.TLam, Of: yes, Kids: []api.Term{one}}, empty}}
			f, e := inferred(t, l, x)
			if e != (api.Fault{}) || text(f) != "1" || !isSame(normal(t, l, x), unit()) {
				t.Errorf("%v, %s", e, text(f))
			}
			if y, _ := inhabited(t, node(api.FThen, yes, yes)); !isSame(y, lam("1", y.Kids[0])) {
				t.Errorf("%s", told(y))
			}
		}
	}
}

func TestAnswersHangOnArgumentsAlone(t *testing.T) {
	type answer struct {
		f    api.Formula
		x    api.Term
		e, g api.Fault
	}
	ctx, terms := someTerms()
	var asks []func() answer
	for _, x := range terms {
		asks = append(asks, func() (a answer) {
			a.f, a.e = lambda.Infer(ctx, x)
			a.x, a.g = lambda.Normal(ctx, x)
			return a
		})
	}
	for _, f := range someFormulas() {
		asks = append(asks, func() (a answer) {
			a.x, a.e = lambda.Inhabit(f)
			return a
		})
	}
	var was []answer
	for _, ask := range asks {
		was = append(was, ask())
	}
	for at, ask := range slices.Backward(asks) {
		if !reflect.DeepEqual(ask(), was[at]) {
			t.Errorf("the question %d is answered otherwise", at)
		}
	}
}
