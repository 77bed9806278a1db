package lambda_test

import (
	"testing"

	"sequent/api"
	"sequent/lambda"
)

// TestTypesOfEachKind: in a context and without one.
func TestTypesOfEachKind(t *testing.T) {
	for _, c := range []struct {
		ctx  string
		x    api.Term
		want string
	}{
		{"p", v(0), "p"},
		{"p, q, r", v(0), "p"},
		{"p, q, r", v(1), "q"},
		{"p, q, r", v(2), "r"},
		{"", lam("p", v(0)), "p -> p"},
		{"q", lam("p", v(0)), "p -> p"},
		{"q", lam("p", v(1)), "p -> q"},
		{"", lam("p", lam("q", v(1))), "p -> q -> p"},
		{"", lam("p", lam("q", v(0))), "p -> q -> q"},
		{"p -> q, p", app(v(0), v(1)), "q"},
		{"", app(lam("1", v(0)), unit()), "1"},
		{"p -> q -> r, p, q", app(app(v(0), v(1)), v(2)), "r"},
		{"p, q", pair(v(0), v(1)), "p & q"},
		{"p, q", pair(v(1), v(0)), "q & p"},
		{"", pair(unit(), lam("p", v(0))), "1 & (p -> p)"},
		{"p & q", first(v(0)), "p"},
		{"p & q", second(v(0)), "q"},
		{"", first(pair(unit(), lam("p", v(0)))), "1"},
		{"", second(pair(unit(), lam("p", v(0)))), "p -> p"},
		{"p", left("p | q", v(0)), "p | q"},
		{"p", right("q | p", v(0)), "q | p"},
		{"", left("1 | 0", unit()), "1 | 0"},
		{"", right("0 | 1", unit()), "0 | 1"},
		{"p | q", either(v(0), right("q | p", v(0)), left("q | p", v(0))), "q | p"},
		{"p | q, r", either(v(0), v(2), v(2)), "r"},
		{"p | p", either(v(0), v(0), v(0)), "p"},
		{"p | p", either(v(0), v(1), v(1)), "p | p"},
		{"", either(left("1 | p", unit()), v(0), unit()), "1"},
		{"0", absurd("p & q", v(0)), "p & q"},
		{"", lam("0", absurd("0", v(0))), "0 -> 0"},
		{"", unit(), "1"},
		{"p", unit(), "1"},
	} {
		f, e := inferred(t, context(c.ctx), c.x)
		if e != (api.Fault{}) || !isSameFormula(f, read(c.want)) {
			t.Errorf("%s in %s: %s, %v, want %s", told(c.x), c.ctx, text(f), e, c.want)
		}
	}
}

// TestNotStandsForItsType: in the context and in Of, at any node, and in what is answered there is none.
func TestNotStandsForItsType(t *testing.T) {
	for _, c := range []struct {
		ctx  string
		x    api.Term
		want string
	}{
		{"~p", v(0), "p -> 0"},
		{"~~p", v(0), "(p -> 0) -> 0"},
		{"p & ~(q | ~r)", v(0), "p & ((q | (r -> 0)) -> 0)"},
		{"~p, p", app(v(0), v(1)), "0"},
		{"~p, p -> 0", app(lam("~p", v(0)), v(1)), "p -> 0"},
		{"~p, p -> 0", app(lam("p -> 0", v(0)), v(0)), "p -> 0"},
		{"", lam("~p", v(0)), "(p -> 0) -> p -> 0"},
		{"", lam("p", lam("~p", app(v(0), v(1)))), "p -> (p -> 0) -> 0"},
		{"p -> 0", left("~p | q", v(0)), "(p -> 0) | q"},
		{"~p", right("q | (p -> 0)", v(0)), "q | (p -> 0)"},
		{"~p | ~p", either(v(0), v(0), v(0)), "p -> 0"},
		{"~p | (p -> 0), r", either(v(0), v(0), v(0)), "p -> 0"},
		{"~p | r, p -> 0", either(v(0), v(0), v(2)), "p -> 0"},
		{"0", absurd("~p & ~0", v(0)), "(p -> 0) & (0 -> 0)"},
		{"~0, 0", app(v(0), v(1)), "0"},
		{"~p -> q, p -> 0", app(v(0), v(1)), "q"},
		{"~p & q", first(v(0)), "p -> 0"},
		{"~p & q", second(v(0)), "q"},
	} {
		f, e := inferred(t, context(c.ctx), c.x)
		if e != (api.Fault{}) || !isSameFormula(f, read(c.want)) {
			t.Errorf("%s in %s: %s, %v, want %s", told(c.x), c.ctx, text(f), e, c.want)
		}
	}
}

// smallTerms are all with so many nodes, of few formulas and names; also those that have no type.
func smallTerms(most int) [][]api.Term {
	all := make([][]api.Term, most+1)
	all[1] = []api.Term{v(-1), v(0), v(1), v(2), unit()}
	unary := []func(api.Term) api.Term{
		func(x api.Term) api.Term { return lam("p", x) },
		func(x api.Term) api.Term { return lam("~p", x) },
		func(x api.Term) api.Term { return lam("p | ~p", x) },
		first, second,
		func(x api.Term) api.Term { return left("p | ~p", x) },
		func(x api.Term) api.Term { return right("1 | 1", x) },
		func(x api.Term) api.Term { return absurd("p", x) },
	}
	for size := 2; size <= most; size++ {
		for _, wrap := range unary {
			for _, x := range all[size-1] {
				all[size] = append(all[size], wrap(x))
			}
		}
		for n := 1; n < size-1; n++ {
			for _, x := range all[n] {
				for _, y := range all[size-1-n] {
					all[size] = append(all[size], app(x, y), pair(x, y))
				}
			}
		}
		for n := 1; n < size-2; n++ {
			for m := 1; n+m < size-1; m++ {
				for _, x := range all[n] {
					for _, y := range all[m] {
						for _, z := range all[size-1-n-m] {
							all[size] = append(all[size], either(x, y, z))
						}
					}
				}
			}
		}
	}
	return all
}

// TestAllSmallTerms: their types and faults, and what comes out of those that have a type, whichever step is done first.
func TestAllSmallTerms(t *testing.T) {
	count := map[int]int{}
	for _, l := range smallTerms(5) {
		for _, x := range l {
			for _, ctx := range [][]api.Formula{nil, context("p -> 0"), context("p | ~p, p")} {
				_, e := inferred(t, ctx, x)
				count[e.Code]++
				if e == (api.Fault{}) {
					orders(t, ctx, x, nil)
				}
			}
		}
	}
	for _, code := range []int{api.OK, api.ErrRange, api.ErrFalse} {
		if count[code] < 1000 {
			t.Errorf("the code %d comes %d times", code, count[code])
		}
	}
}

// TestTypesGoOn: a type is as large as it needs to be, whatever a formula may have.
func TestTypesGoOn(t *testing.T) {
	x, want := unit(), node(api.FTrue)
	for range 9 {
		x, want = pair(x, x), node(api.FAnd, want, want)
	}
	if f, e := lambda.Infer(nil, x); e != (api.Fault{}) || !isSameFormula(f, want) {
		t.Errorf("%v, %s", e, text(f))
	}
	most := nots(api.MaxNodes-1, name("p"))
	f, e := inferred(t, []api.Formula{most}, api.Term{Kind: api.TLam, Of: most, Kids: []api.Term{pair(v(0), v(1))}})
	if e != (api.Fault{}) || len(text(f)) < 6*api.MaxNodes {
		t.Errorf("%v, %s", e, text(f))
	}
}
