package lambda_test

import (
	"math/rand"
	"reflect"
	"slices"
	"testing"

	"sequent/api"
	"sequent/lambda"
)

// chains are terms of just so many nodes (an odd number, of 3 at least), deep in each way, with a name or TUnit innermost.
func chains(nodes int) map[string]api.Term {
	wraps := map[string]func(api.Term) api.Term{
		"lam, absurd":   func(x api.Term) api.Term { return lam("0", absurd("p", x)) },
		"pair left":     func(x api.Term) api.Term { return pair(x, unit()) },
		"pair right":    func(x api.Term) api.Term { return pair(unit(), x) },
		"app":           func(x api.Term) api.Term { return app(v(1), x) },
		"first, second": func(x api.Term) api.Term { return first(second(x)) },
		"sides":         func(x api.Term) api.Term { return left("1 | p", right("q | 1", x)) },
	}
	out := map[string]api.Term{}
	for what, wrap := range wraps {
		x := v(0)
		for n := 1; n < nodes; n += 2 {
			x = wrap(x)
		}
		out[what] = x
	}
	return out
}

// TestMostNodes: MaxTerm nodes are looked at, and one more is too many, whatever it is.
func TestMostNodes(t *testing.T) {
	for what, x := range chains(api.MaxTerm - 1) {
		_, e := lambda.Infer(nil, x)
		if e.Code == api.ErrMany || e.Code == api.ErrForm {
			t.Errorf("%s: %v", what, e)
		}
		just := absurd("p", x) // MaxTerm nodes
		_, f := lambda.Infer(nil, just)
		if sizeOf(just) != api.MaxTerm || f.Code != e.Code || f.At != e.At+1 {
			t.Errorf("%s, and one more: %d, %v, %v", what, sizeOf(just), f, e)
		}
		refused(t, what+", too many", nil, first(just), fault(api.ErrMany, 0))
		refused(t, what+", and no context", []api.Formula{{}}, first(just), fault(api.ErrKind, 0))
	}
	last := func(x api.Term) api.Term { // it has MaxTerm - 1 nodes ahead of x
		for range (api.MaxTerm - 2) / 2 {
			x = pair(unit(), x)
		}
		return lam("p", x)
	}
	refused(t, "no kind at the last node", nil, last(term(0)), fault(api.ErrKind, api.MaxTerm-1))
	refused(t, "no name at the last node", nil, last(v(1)), fault(api.ErrRange, api.MaxTerm-1))
	refused(t, "no kind at one more", nil, lam("p", last(term(0))), fault(api.ErrMany, 0))
	refused(t, "many Kids at the last node", nil, last(term(api.TUnit, unit())), fault(api.ErrSize, api.MaxTerm-1))
	refused(t, "no kind far ahead", nil, pair(term(0), last(unit())), fault(api.ErrKind, 1))
	refused(t, "no types far ahead", nil, pair(first(unit()), last(unit())), fault(api.ErrMany, 0))
	f, e := lambda.Infer(nil, last(v(0)))
	if e != (api.Fault{}) || f.Kind != api.FThen || formulaSize(f) != api.MaxTerm+1 {
		t.Errorf("%v, %d", e, f.Kind)
	}
	if out, e := lambda.Normal(nil, last(v(0))); e != (api.Fault{}) || !isSame(out, last(v(0))) {
		t.Errorf("%v", e)
	}
}

// TestTermsWithoutEnd: Kids may hold themselves.
func TestTermsWithoutEnd(t *testing.T) {
	for kind, kids := range map[int]int{api.TLam: 1, api.TApp: 2, api.TPair: 2, api.TFirst: 1, api.TSecond: 1, api.TLeft: 1, api.TRight: 1, api.TCase: 3, api.TAbsurd: 1} {
		l := make([]api.Term, kids)
		x := api.Term{Kind: kind, Kids: l}
		if slices.Contains([]int{api.TLam, api.TLeft, api.TRight, api.TAbsurd}, kind) {
			x.Of = read("p | q")
		}
		for i := range l {
			l[i] = x
		}
		refused(t, "endless", nil, x, fault(api.ErrMany, 0))
		x.Kind = 99
		refused(t, "endless, no kind", nil, x, fault(api.ErrKind, 0))
		refused(t, "endless, in another", nil, pair(unit(), x), fault(api.ErrKind, 2))
		l[kids-1] = api.Term{Kind: kind, Of: endless(), Kids: l}
		x.Kind, x.Of = api.TPair, api.Formula{}
		x.Kids = []api.Term{unit(), l[kids-1]}
		refused(t, "endless, with an endless Of", nil, x, fault(api.ErrForm, 2))
	}
	holes := make([]api.Formula, 3)
	refused(t, "a context without formulas", holes, unit(), fault(api.ErrKind, 0))
	refused(t, "an endless context", []api.Formula{endless()}, unit(), fault(api.ErrMany, 0))
	refused(t, "nothing", nil, api.Term{}, fault(api.ErrKind, 0))
	noTerm(t, "endless", endless(), fault(api.ErrMany, 0))
	noTerm(t, "nothing", api.Formula{}, fault(api.ErrKind, 0))
}

// TestLargestOfFewNodes: of 24 nodes or fewer ErrMuch is not told, though much comes out.
func TestLargestOfFewNodes(t *testing.T) {
	ctx := context("p -> p -> p, p, p | p")
	both := lam("p", app(app(v(2), v(0)), v(0)))    // below one name more
	three := lam("p | p", either(v(0), v(1), v(1))) // of one comes three
	five := lam("p | p", either(v(0), v(1), either(v(1), v(2), v(2))))
	by := func(of string, inner int) api.Term {
		return lam("("+of+") -> "+of, lam(of, times(inner, v(1), v(0))))
	}
	on := func(of string, outer int, x, inner api.Term) api.Term {
		power := "((" + of + ") -> " + of + ")"
		return app(lam(power+" -> "+power, times(outer, v(0), x)), inner)
	}
	for _, c := range []struct {
		what        string
		x           api.Term
		nodes, want int
	}{
		{"two times two times two", app(app(numeral(2, 2), numeral(2, 1)), numeral(2, 0)), 23, 35},
		{"three times three", app(numeral(3, 1), numeral(3, 0)), 19, 2 + 2*27 + 1},
		{"both, sixteen times", on("p", 4, both, by("p", 2)), 23, 1 + 4*(1<<16) - 3},
		{"three, nine times", on("p | p", 2, three, by("p | p", 3)), 20, 1 + 29524},
		{"five, eight times", on("p | p", 3, five, by("p | p", 2)), 23, 585938},
		{"65536 times", app(lam(level(3), times(4, v(0), numeral(2, 0))), numeral(2, 1)), 24, 2 + 2*65536 + 1},
	} {
		if sizeOf(c.x) != c.nodes {
			t.Errorf("%s has %d nodes", c.what, sizeOf(c.x))
		}
		if n := sizeOf(normal(t, ctx, c.x)); n != c.want {
			t.Errorf("%s: %d nodes come out, want %d", c.what, n, c.want)
		}
	}
	out := normal(t, nil, app(lam(level(3), times(4, v(0), numeral(2, 0))), numeral(2, 1)))
	if !isSame(out, numeral(65536, 0)) {
		t.Error("65536 times: another term")
	}
}

// TestFewNodes: of terms by chance with 24 nodes or fewer ErrMuch is never told: normal looks at that.
func TestFewNodes(t *testing.T) {
	m := maker{rand.New(rand.NewSource(5))}
	count := 0
	for range 8000 {
		ctx := with(m.formula(2), context("p, 0, q"))
		x := m.term(ctx, m.formula(2), 3)
		if n := sizeOf(x); n <= 24 {
			normal(t, ctx, x)
			if n > 12 {
				count++
			}
		}
	}
	if count < 500 {
		t.Errorf("only %d terms", count)
	}
}

// TestTooMuch: what is far too large ends soon, with ErrMuch at 0, or with what comes out.
func TestTooMuch(t *testing.T) {
	two := func(l int) api.Term { return numeral(2, l) }
	tower := func(high int) api.Term {
		x := two(high - 1)
		for l := high - 2; l >= 0; l-- {
			x = app(x, two(l))
		}
		return x
	}
	ctx := context("p -> p -> p, p, p | p")
	three := lam("p | p", either(v(0), v(1), v(1)))
	x := v(2)
	for range 40 {
		x = app(three, x)
	}
	wide := v(1)
	for range 60 {
		wide = app(lam("p", app(app(v(1), v(0)), v(0))), wide)
	}
	for what, x := range map[string]api.Term{
		"five twos": tower(5), "six twos": tower(6), "three to the power of 40": x, "two to the power of 60": wide,
		"a tower on itself": app(lam(level(2), app(v(0), lam("p", app(app(v(2), v(0)), v(0))))), tower(5)),
	} {
		if _, e := lambda.Infer(ctx, x); e != (api.Fault{}) {
			t.Errorf("%s: %v", what, e)
		}
		if out, e := lambda.Normal(ctx, x); e != fault(api.ErrMuch, 0) || !reflect.DeepEqual(out, api.Term{}) {
			t.Errorf("%s: %v", what, e)
		}
	}
	// What is large, and nowhere needed, is not worked out.
	if out := normal(t, ctx, first(pair(v(1), x))); !isSame(out, v(1)) {
		t.Errorf("%s", told(out))
	}
	if out := normal(t, ctx, app(lam("p | p", v(2)), x)); !isSame(out, v(1)) {
		t.Errorf("%s", told(out))
	}
	if out := normal(t, ctx, app(app(app(lam(level(2), v(0)), tower(4)), lam("p", v(0))), v(1))); !isSame(out, v(1)) {
		t.Errorf("%s", told(out))
	}
}

// TestLargeTermsStay: one that has nothing to be done is answered, however large it is.
func TestLargeTermsStay(t *testing.T) {
	most := nots(2, doubled(api.FAnd, 5, node(api.FOr, name("abcdefgh"), name("q")))) // 129 nodes
	x := v(0)
	for n := 1; n+2 < api.MaxTerm/2; n += 2 {
		x = pair(x, v(n/2))
	}
	for range (api.MaxTerm - sizeOf(x)) / 2 {
		x = lam("p", lam("q", x))
	}
	if out := normal(t, nil, x); sizeOf(x) < api.MaxTerm-2 || !isSame(out, x) {
		t.Errorf("deep: %d nodes come out", sizeOf(out))
	}
	x = unit()
	for range api.MaxTerm / 8 {
		x = api.Term{Kind: api.TLam, Of: most, Kids: []api.Term{x}}
	}
	if out := normal(t, nil, x); !isSame(out, x) {
		t.Errorf("with large formulas: %d nodes come out", sizeOf(out))
	}
}

// TestDeepSteps: steps as deep as a term may be, each in the one before it.
func TestDeepSteps(t *testing.T) {
	x, y, z := v(0), v(0), v(0)
	for range api.MaxTerm/3 - 1 {
		x = app(lam("p", v(0)), x)
		y = first(pair(y, unit()))
		z = app(lam("p", z), v(0))
	}
	w := v(0)
	for range api.MaxTerm/4 - 1 {
		w = either(left("p | 1", w), v(0), v(1))
	}
	ctx := context("p")
	for what, deep := range map[string]api.Term{"app": x, "first": y, "lam": z, "case": w} {
		if out := normal(t, ctx, deep); !isSame(out, v(0)) {
			t.Errorf("%s: %d nodes come out", what, sizeOf(out))
		}
	}
}
