package lambda_test

import (
	"math/rand"
	"slices"
	"testing"

	"sequent/api"
	"sequent/lambda"
)

// orders holds Normal against steps that are done one by one: outer ones first, inner ones first, and by chance. It tells whether it came to an end.
func orders(t *testing.T, ctx []api.Formula, x api.Term, chance *rand.Rand) bool {
	t.Helper()
	out := normal(t, ctx, x)
	ways := []func(n int) int{func(int) int { return 0 }, func(n int) int { return n - 1 }}
	if chance != nil {
		ways = append(ways, chance.Intn, chance.Intn)
	}
	for _, choose := range ways {
		want, ended := worked(x, choose)
		if !ended {
			return false
		}
		if !isSame(out, want) {
			t.Fatalf("%s: %s, want %s", told(x), told(out), told(want))
		}
	}
	return true
}

func TestSteps(t *testing.T) {
	for _, c := range []struct {
		ctx     string
		x, want api.Term
	}{
		{"", app(lam("1", v(0)), unit()), unit()},
		{"p", app(lam("p", v(0)), v(0)), v(0)},
		{"p, q", app(lam("p", v(2)), v(0)), v(1)},
		{"p, q", first(pair(v(0), v(1))), v(0)},
		{"p, q", second(pair(v(0), v(1))), v(1)},
		{"p", either(left("p | q", v(0)), v(0), v(1)), v(0)},
		{"q", either(right("p | q", v(0)), v(1), v(0)), v(0)},
		{"q, r", either(left("q | p", v(0)), pair(v(0), v(2)), pair(v(1), v(2))), pair(v(0), v(1))},
		{"q, r", either(right("p | q", v(0)), pair(v(1), v(2)), pair(v(0), v(2))), pair(v(0), v(1))},
		{"p -> q, p", app(lam("p -> q", app(v(0), v(2))), v(0)), app(v(0), v(1))},
		// A step makes another one possible.
		{"p", app(lam("p -> p", app(v(0), v(1))), lam("p", v(0))), v(0)},
		{"p, q", app(lam("p & q", second(v(0))), pair(v(0), v(1))), v(1)},
		{"p, q", first(app(lam("p", pair(v(0), v(2))), v(0))), v(0)},
		{"p", app(first(pair(lam("p", v(0)), unit())), v(0)), v(0)},
		{"p", app(either(left("1 | 1", unit()), lam("p", v(0)), lam("p", v(0))), v(0)), v(0)},
		{"p", either(app(lam("p", left("p | p", v(0))), v(0)), v(0), v(0)), v(0)},
		{"p", either(either(right("1 | p", v(0)), left("p | 1", v(1)), left("p | 1", v(0))), v(0), v(1)), v(0)},
		// Nothing is to be done where something else stands than what a step asks for.
		{"0, p", app(absurd("p -> p", v(0)), v(1)), app(absurd("p -> p", v(0)), v(1))},
		{"0", first(absurd("p & p", v(0))), first(absurd("p & p", v(0)))},
		{"0", second(absurd("p & p", v(0))), second(absurd("p & p", v(0)))},
		{"0", either(absurd("p | p", v(0)), v(0), v(0)), either(absurd("p | p", v(0)), v(0), v(0))},
		{"p & p", first(v(0)), first(v(0))},
		{"p & q", pair(first(v(0)), second(v(0))), pair(first(v(0)), second(v(0)))},
		{"p -> q", lam("p", app(v(1), v(0))), lam("p", app(v(1), v(0)))},
		{"p | q", either(v(0), left("p | q", v(0)), right("p | q", v(0))), either(v(0), left("p | q", v(0)), right("p | q", v(0)))},
		{"p | p, p", app(either(v(0), lam("p", v(0)), lam("p", v(0))), v(1)), app(either(v(0), lam("p", v(0)), lam("p", v(0))), v(1))},
		{"0", absurd("0", absurd("0", v(0))), absurd("0", absurd("0", v(0)))},
		// What is put for a name that is nowhere goes.
		{"p, 0", app(lam("q", v(1)), absurd("q", v(1))), v(0)},
		// What is put for a name that stands twice stands twice, worked out.
		{"p", app(lam("p", pair(v(0), v(0))), app(lam("p", v(0)), v(0))), pair(v(0), v(0))},
	} {
		ctx := context(c.ctx)
		if out := normal(t, ctx, c.x); !isSame(out, c.want) {
			t.Errorf("%s in %s: %s, want %s", told(c.x), c.ctx, told(out), told(c.want))
		}
		orders(t, ctx, c.x, nil)
	}
}

// TestNamesAreNeitherCaughtNorLost: what is put for a name comes under names that it does not speak of.
func TestNamesAreNeitherCaughtNorLost(t *testing.T) {
	for _, c := range []struct {
		ctx     string
		x, want api.Term
	}{
		// The name of the context, put below a TLam, is not its name.
		{"p", app(lam("p", lam("p", v(1))), v(0)), lam("p", v(1))},
		{"p", app(lam("p", lam("p", v(0))), v(0)), lam("p", v(0))},
		{"p, q", app(lam("p", lam("q", lam("q", pair(v(2), pair(v(4), v(0)))))), v(0)), lam("q", lam("q", pair(v(2), pair(v(3), v(0)))))},
		// The same below a TCase.
		{"p, q | q", app(lam("p", either(v(2), v(1), v(1))), v(0)), either(v(1), v(1), v(1))},
		{"p, p | p", app(lam("p", either(v(2), v(0), v(1))), v(0)), either(v(1), v(0), v(1))},
		// Names that are bound around the step.
		{"", lam("p", lam("q", app(lam("p", lam("r", pair(v(1), v(2)))), v(1)))), lam("p", lam("q", lam("r", pair(v(2), v(1)))))},
		{"p | q, p", either(v(0), app(lam("p", lam("q", v(1))), v(0)), app(lam("q", lam("q", v(4))), v(0))), either(v(0), lam("q", v(1)), lam("q", v(3)))},
		{"", lam("p", either(left("p | 1", v(0)), lam("q", v(1)), lam("q", v(2)))), lam("p", lam("q", v(1)))},
		{"", lam("p", either(right("1 | p", v(0)), lam("q", v(2)), lam("q", v(1)))), lam("p", lam("q", v(1)))},
		// A function is put twice, into each other, each time with its own names.
		{"p", app(lam("(p -> p) -> p -> p", app(v(0), app(v(0), lam("p", v(2))))), lam("p -> p", lam("p", app(v(1), app(v(1), v(0)))))), lam("p", v(1))},
		{"", app(lam("(p -> p) -> p -> p", lam("p -> p", app(v(1), app(v(1), v(0))))), lam("p -> p", lam("p", app(v(1), app(v(1), v(0)))))),
			lam("p -> p", lam("p", app(v(1), app(v(1), app(v(1), app(v(1), v(0)))))))},
		// What is put speaks of names itself, and comes to more than one depth.
		{"p -> p, p", app(lam("p", pair(v(0), lam("p", pair(v(0), pair(v(1), v(2)))))), app(v(0), v(1))),
			pair(app(v(0), v(1)), lam("p", pair(v(0), pair(app(v(1), v(2)), v(1)))))},
	} {
		ctx := context(c.ctx)
		if out := normal(t, ctx, c.x); !isSame(out, c.want) {
			t.Errorf("%s in %s: %s, want %s", told(c.x), c.ctx, told(out), told(c.want))
		}
		orders(t, ctx, c.x, nil)
	}
}

// TestFormulasStay: steps leave what is written in Of as it is, with FNot.
func TestFormulasStay(t *testing.T) {
	ctx := context("p -> 0, p")
	for _, c := range [][2]api.Term{
		{app(lam("~p", lam("~p", v(1))), v(0)), lam("~p", v(1))},
		{app(lam("p -> 0", lam("~~p", v(1))), v(0)), lam("~~p", v(1))},
		{first(pair(left("~p | (p -> 0)", v(0)), v(1))), left("~p | (p -> 0)", v(0))},
		{app(lam("p", absurd("~p", app(v(1), v(0)))), v(1)), absurd("~p", app(v(0), v(1)))},
		{either(left("~p | q", v(0)), right("q | ~p", v(0)), right("q | ~p", v(1))), right("q | ~p", v(0))},
	} {
		if out := normal(t, ctx, c[0]); !isSame(out, c[1]) {
			t.Errorf("%s: %s, want %s", told(c[0]), told(out), told(c[1]))
		}
	}
}

// settled are terms of each kind in which nothing is left to be done, and in which each kind stands below each Kid of some other one.
func settled() (ctx []api.Formula, all []api.Term) {
	ctx = context("p, p -> p, p & q, p | q, 0, q -> p, ~p, (p -> p) -> p & p")
	return ctx, []api.Term{
		v(0), unit(), app(v(1), app(v(1), v(0))), lam("p", app(v(2), v(0))), lam("~p", lam("p", app(v(1), v(0)))),
		pair(first(v(2)), second(v(2))), first(app(v(7), lam("p", v(0)))), second(app(v(7), v(1))),
		left("p | 1", app(v(5), second(v(2)))), right("1 | (p & q)", v(2)),
		either(v(3), v(1), app(v(6), v(0))), either(v(3), lam("q", pair(v(1), v(0))), lam("q", pair(v(2), v(0)))),
		app(either(v(3), v(2), lam("p", app(v(7), v(1)))), v(0)), first(either(v(3), pair(v(0), unit()), pair(v(1), unit()))),
		either(either(v(3), left("p | p", v(0)), right("p | p", v(1))), pair(v(0), v(3)), pair(v(1), v(3))),
		absurd("p -> q", v(4)), absurd("p", absurd("0", app(v(6), v(0)))), app(absurd("p -> ~p", v(4)), v(0)),
		second(absurd("p & q", v(4))), either(absurd("1 | 1", v(4)), lam("p", v(1)), lam("p", v(1))),
		pair(unit(), lam("p & p", first(v(0)))), lam("0", either(v(4), left("q | p", absurd("q", v(1))), right("q | p", absurd("p", v(1))))),
	}
}

// undone are terms that come to x, of the type f, by one step.
func undone(x api.Term, f api.Formula) map[string]api.Term {
	or := node(api.FOr, f, f)
	ofX := func(kind int) api.Term { return api.Term{Kind: kind, Of: or, Kids: []api.Term{x}} }
	return map[string]api.Term{
		"put":     app(api.Term{Kind: api.TLam, Of: f, Kids: []api.Term{v(0)}}, x),
		"not put": app(lam("1", shifted(x, 1)), unit()),
		"first":   first(pair(x, unit())),
		"second":  second(pair(unit(), x)),
		"left":    either(ofX(api.TLeft), v(0), shifted(x, 1)),
		"right":   either(ofX(api.TRight), shifted(x, 1), v(0)),
		"of left": either(left("1 | 0", unit()), shifted(x, 1), shifted(x, 1)),
	}
}

// each hands over all nodes of x with the types of the names around them, and what puts another term there.
func each(ctx []api.Formula, x api.Term, look func(ctx []api.Formula, one api.Term, back func(api.Term) api.Term)) {
	look(ctx, x, func(y api.Term) api.Term { return y })
	var kids []api.Formula
	for i, k := range x.Kids {
		inner := namesAround(ctx, x, i, kids)
		each(inner, k, func(ctx []api.Formula, one api.Term, back func(api.Term) api.Term) {
			look(ctx, one, func(y api.Term) api.Term {
				out := x
				out.Kids = slices.Clone(x.Kids)
				out.Kids[i] = back(y)
				return out
			})
		})
		f, _ := typeIn(inner, k, 0)
		kids = append(kids, f)
	}
}

// TestStepsBelowEachKind: a step of each kind at each node of terms of each kind, also two of them in each other.
func TestStepsBelowEachKind(t *testing.T) {
	ctx, all := settled()
	var types []api.Formula
	for _, f := range ctx {
		types = append(types, asType(f))
	}
	type place struct{ kind, kid int }
	seen := map[place]int{}
	for _, x := range all {
		if out := normal(t, ctx, x); !isSame(out, x) {
			t.Errorf("%s: %s", told(x), told(out))
		}
		each(types, x, func(names []api.Formula, one api.Term, back func(api.Term) api.Term) {
			for i := range one.Kids {
				seen[place{one.Kind, i}]++
			}
			f, e := typeIn(names, one, 0)
			if e != (api.Fault{}) {
				t.Fatalf("%s has no type", told(one))
			}
			for what, y := range undone(one, f) {
				if out := normal(t, ctx, back(y)); !isSame(out, x) {
					t.Errorf("%s: %s: %s, want %s", what, told(back(y)), told(out), told(x))
				}
				for _, z := range undone(y, f) {
					if out := normal(t, ctx, back(z)); !isSame(out, x) {
						t.Errorf("%s: %s: %s, want %s", what, told(back(z)), told(out), told(x))
					}
				}
			}
		})
	}
	for kind, kids := range map[int]int{api.TLam: 1, api.TApp: 2, api.TPair: 2, api.TFirst: 1, api.TSecond: 1, api.TLeft: 1, api.TRight: 1, api.TCase: 3, api.TAbsurd: 1} {
		for i := range kids {
			if seen[place{kind, i}] == 0 {
				t.Errorf("no step below the Kid %d of the kind %d", i, kind)
			}
		}
	}
}

// maker makes terms of types, by chance.
type maker struct {
	chance *rand.Rand
}

func (m maker) formula(deep int) api.Formula {
	if deep == 0 || m.chance.Intn(3) == 0 {
		return []api.Formula{name("p"), name("q"), name("p"), node(api.FTrue)}[m.chance.Intn(4)]
	}
	if m.chance.Intn(6) == 0 {
		return node(api.FNot, m.formula(deep-1))
	}
	return node([]int{api.FAnd, api.FOr, api.FThen}[m.chance.Intn(3)], m.formula(deep-1), m.formula(deep-1))
}

func with(f api.Formula, ctx []api.Formula) []api.Formula {
	return slices.Concat([]api.Formula{f}, ctx)
}

// term has the type of f; the context has p, q and 0. As long as there is fuel, it has steps to be done.
func (m maker) term(ctx []api.Formula, f api.Formula, fuel int) api.Term {
	var names []int
	for i, g := range ctx {
		if isSameFormula(asType(g), asType(f)) {
			names = append(names, i)
		}
	}
	if len(names) > 0 && (fuel <= 0 || m.chance.Intn(3) == 0) {
		return v(names[m.chance.Intn(len(names))])
	}
	if fuel > 0 && m.chance.Intn(3) > 0 {
		return m.redex(ctx, f, fuel-1)
	}
	switch asType(f).Kind {
	case api.FTrue:
		return unit()
	case api.FThen:
		if m.chance.Intn(6) > 0 {
			sides := node(api.FThen, slices.Concat(f.Kids, []api.Formula{node(api.FFalse)})[:2]...)
			return api.Term{Kind: api.TLam, Of: sides.Kids[0], Kids: []api.Term{m.term(with(sides.Kids[0], ctx), sides.Kids[1], fuel-1)}}
		}
	case api.FAnd:
		return pair(m.term(ctx, f.Kids[0], fuel-1), m.term(ctx, f.Kids[1], fuel-1))
	case api.FOr:
		side := m.chance.Intn(2)
		return api.Term{Kind: api.TLeft + side, Of: f, Kids: []api.Term{m.term(ctx, f.Kids[side], fuel-1)}}
	}
	isFalse := func(g api.Formula) bool { return g.Kind == api.FFalse }
	return api.Term{Kind: api.TAbsurd, Of: f, Kids: []api.Term{v(slices.IndexFunc(ctx, isFalse))}}
}

// redex takes something apart that may have been put together.
func (m maker) redex(ctx []api.Formula, f api.Formula, fuel int) api.Term {
	g := m.formula(2)
	switch m.chance.Intn(6) {
	case 0, 1:
		return app(m.term(ctx, node(api.FThen, g, f), fuel), m.term(ctx, g, fuel))
	case 2:
		return first(m.term(ctx, node(api.FAnd, f, g), fuel))
	case 3:
		return second(m.term(ctx, node(api.FAnd, g, f), fuel))
	case 4:
		h := m.formula(1)
		return either(m.term(ctx, node(api.FOr, g, h), fuel), m.term(with(g, ctx), f, fuel), m.term(with(h, ctx), f, fuel))
	}
	return api.Term{Kind: api.TAbsurd, Of: f, Kids: []api.Term{m.term(ctx, node(api.FFalse), fuel)}}
}

// TestChurchAndRosser: of terms by chance the same comes out, whichever step is done first.
func TestChurchAndRosser(t *testing.T) {
	m := maker{rand.New(rand.NewSource(1))}
	done, long, kinds := 0, 0, map[int]int{}
	for range 6000 {
		ctx := with(m.formula(2), with(m.formula(1), context("p, 0, q")))
		x := m.term(ctx, m.formula(2), 1+m.chance.Intn(6))
		if sizeOf(x) > 400 {
			continue
		}
		if _, e := inferred(t, ctx, x); e != (api.Fault{}) {
			t.Fatalf("%s: fault %v", told(x), e)
		}
		if orders(t, ctx, x, m.chance) {
			done++
			if steps(x) > 5 {
				long++
			}
			for _, n := range nodesOf(x) {
				kinds[n.Kind]++
			}
		}
	}
	if done < 3000 || long < 300 {
		t.Errorf("%d terms came to an end, %d of them with many steps", done, long)
	}
	for kind := api.TVar; kind <= api.TUnit; kind++ {
		if kinds[kind] < 500 {
			t.Errorf("%d nodes of the kind %d", kinds[kind], kind)
		}
	}
}

// times is f so many times on x.
func times(n int, f, x api.Term) api.Term {
	for range n {
		x = app(f, x)
	}
	return x
}

// level is the type of what a numeral of the level before takes and gives: p, p -> p, (p -> p) -> p -> p ..
func level(n int) string {
	if n == 0 {
		return "p"
	}
	return "(" + level(n-1) + ") -> " + level(n-1)
}

// numeral does what is of the level l + 1 so many times.
func numeral(n, l int) api.Term {
	return lam(level(l+1), lam(level(l), times(n, v(1), v(0))))
}

// TestNumerals: n on m is m to the power of n.
func TestNumerals(t *testing.T) {
	for n := range 5 {
		power := 1
		for m := range 4 {
			power = 1
			for range n {
				power *= m
			}
			if out := normal(t, nil, app(numeral(n, 1), numeral(m, 0))); n > 0 && !isSame(out, numeral(power, 0)) {
				t.Errorf("%d on %d: %s", n, m, told(out))
			}
		}
	}
	two := func(l int) api.Term { return numeral(2, l) }
	if out := normal(t, nil, app(app(two(2), two(1)), two(0))); !isSame(out, numeral(16, 0)) {
		t.Errorf("two on two on two: %s", told(out))
	}
	if out := normal(t, nil, app(app(app(two(3), two(2)), two(1)), two(0))); !isSame(out, numeral(1<<16, 0)) {
		t.Errorf("%d nodes", sizeOf(out))
	}
}

// TestNormalTwice: in what came out nothing is left to be done.
func TestNormalTwice(t *testing.T) {
	m := maker{rand.New(rand.NewSource(2))}
	for range 500 {
		ctx := context("p, 0, q")
		out, e := lambda.Normal(ctx, m.term(ctx, m.formula(3), 5))
		if e == (api.Fault{}) && sizeOf(out) <= api.MaxTerm && !isSame(normal(t, ctx, out), out) {
			t.Fatalf("%s", told(out))
		}
	}
}
