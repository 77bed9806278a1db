package lambda_test

import (
	"math/rand"
	"slices"
	"testing"

	"sequent/api"
	"sequent/formula"
)

// broken are formulas that are not plain, and what is told of them.
func broken() map[string]struct {
	f    api.Formula
	code int
} {
	p := name("p")
	type one = struct {
		f    api.Formula
		code int
	}
	return map[string]one{
		"zero":             {api.Formula{}, api.ErrKind},
		"no kind":          {node(10), api.ErrKind},
		"below zero":       {node(-1), api.ErrKind},
		"box":              {node(api.FBox, p), api.ErrKind},
		"diamond within":   {node(api.FNot, node(api.FAnd, p, node(api.FDia, p))), api.ErrKind},
		"box in an or":     {node(api.FOr, p, node(api.FBox, p)), api.ErrKind},
		"no Kids":          {node(api.FNot), api.ErrSize},
		"one Kid":          {node(api.FOr, p), api.ErrSize},
		"three Kids":       {node(api.FOr, p, p, p), api.ErrSize},
		"no name":          {name(""), api.ErrName},
		"a long name":      {name("abcdefghi"), api.ErrName},
		"a name of or":     {api.Formula{Kind: api.FOr, Name: "p", Kids: []api.Formula{p, p}}, api.ErrName},
		"too many nodes":   {nots(api.MaxNodes, p), api.ErrMany},
		"too many in or":   {node(api.FOr, p, nots(api.MaxNodes-2, p)), api.ErrMany},
		"without end":      {endless(), api.ErrMany},
		"endless in an or": {node(api.FOr, p, endless()), api.ErrMany},
	}
}

func TestFaultsOfContexts(t *testing.T) {
	p := name("p")
	many := func(n int) []api.Formula { return slices.Repeat([]api.Formula{p}, n) }
	bad := term(0)
	if f, e := inferred(t, many(30), v(29)); e != (api.Fault{}) || text(f) != "p" {
		t.Errorf("30: %s, %v", text(f), e)
	}
	normal(t, many(30), v(29))
	refused(t, "30, and a name too far", many(30), v(30), fault(api.ErrRange, 0))
	refused(t, "31", many(31), v(0), fault(api.ErrMany, 0))
	refused(t, "31, and no term", many(31), bad, fault(api.ErrMany, 0))
	refused(t, "31, of which one is none", append(many(30), api.Formula{}), v(0), fault(api.ErrMany, 0))
	refused(t, "31, of which the first is none", with(api.Formula{}, many(30)), v(0), fault(api.ErrMany, 0))
	refused(t, "1000", many(1000), v(0), fault(api.ErrMany, 0))
	for what, c := range broken() {
		for at := range 30 {
			ctx := many(30)
			ctx[at] = c.f
			refused(t, what, ctx, v(0), fault(c.code, at))
			refused(t, what+", and no term", ctx, bad, fault(c.code, at))
			refused(t, what+", last", ctx[:at+1], unit(), fault(c.code, at))
		}
		for _, other := range broken() {
			refused(t, what+", and another", []api.Formula{p, c.f, other.f}, v(7), fault(c.code, 1))
		}
	}
}

// misformed are x with another first node of which checks of form tell something.
func misformed(x api.Term) map[string]struct {
	x    api.Term
	code int
} {
	type one = struct {
		x    api.Term
		code int
	}
	out := map[string]one{}
	changed := func(what string, code int, change func(y *api.Term)) {
		y := x
		y.Kids = slices.Clone(x.Kids)
		change(&y)
		out[what] = one{y, code}
	}
	for what, kind := range map[string]int{"no kind": 0, "one too far": 12, "below zero": -1, "far": 1 << 40} {
		changed(what, api.ErrKind, func(y *api.Term) { y.Kind = kind })
		changed(what+", and all else", api.ErrKind, func(y *api.Term) {
			y.Kind, y.I, y.Of, y.Kids = kind, 1, api.Formula{Kind: -3}, append(y.Kids, term(0))
		})
	}
	changed("one Kid more", api.ErrSize, func(y *api.Term) { y.Kids = append(y.Kids, unit()) })
	changed("many Kids", api.ErrSize, func(y *api.Term) { y.Kids = make([]api.Term, 100000) })
	changed("one Kid more, and all else", api.ErrSize, func(y *api.Term) {
		y.I, y.Of, y.Kids = -1, api.Formula{Kind: -3}, append(y.Kids, term(0))
	})
	if len(x.Kids) > 0 {
		changed("one Kid less", api.ErrSize, func(y *api.Term) { y.Kids = y.Kids[1:] })
		changed("no Kids", api.ErrSize, func(y *api.Term) { y.Kids = nil })
		changed("no Kids, and no Of", api.ErrSize, func(y *api.Term) { y.Kids, y.Of = nil, api.Formula{Kind: -3} })
	}
	if x.Kind != api.TVar {
		changed("I", api.ErrForm, func(y *api.Term) { y.I = 1 })
		changed("I below zero", api.ErrForm, func(y *api.Term) { y.I = -1 })
	}
	asks := slices.Contains([]int{api.TLam, api.TLeft, api.TRight, api.TAbsurd}, x.Kind)
	for what, c := range broken() {
		if asks || what != "zero" {
			changed("Of "+what, api.ErrForm, func(y *api.Term) { y.Of = c.f })
		}
	}
	for _, of := range []string{"p", "1", "p & q", "p -> q", "~(p | q)"} {
		if !asks || x.Kind == api.TLeft || x.Kind == api.TRight {
			changed("Of "+of, api.ErrForm, func(y *api.Term) { y.Of = read(of) })
		}
	}
	if !asks {
		changed("Of a name alone", api.ErrForm, func(y *api.Term) { y.Of = api.Formula{Name: "p"} })
		changed("Of a Kid alone", api.ErrForm, func(y *api.Term) { y.Of = api.Formula{Kids: []api.Formula{{}}} })
		changed("Of an or", api.ErrForm, func(y *api.Term) { y.Of = read("p | q") })
	}
	return out
}

// numberOf is how many nodes stand ahead of the place to which a term is put back.
func numberOf(back func(api.Term) api.Term) int {
	isMark := func(x api.Term) bool { return x.Kind == -99 }
	return slices.IndexFunc(nodesOf(back(term(-99))), isMark)
}

// TestFaultsOfForm: each at each node of terms of each kind, and each goes ahead of faults behind it, and of types.
func TestFaultsOfForm(t *testing.T) {
	ctx, all := settled()
	var types []api.Formula
	for _, f := range ctx {
		types = append(types, asType(f))
	}
	kinds := map[int]int{}
	for _, x := range all {
		each(types, x, func(_ []api.Formula, one api.Term, back func(api.Term) api.Term) {
			kinds[one.Kind]++
			at := numberOf(back)
			for what, c := range misformed(one) {
				want := fault(c.code, at)
				y := back(c.x)
				refused(t, what, ctx, y, want)
				if sizeOf(y) < api.MaxTerm {
					inferred(t, ctx, y)
				}
				// A fault of types ahead of it, and one of form behind it.
				refused(t, what+", and no types", ctx, app(unit(), y), fault(c.code, at+2))
				refused(t, what+", and no name", ctx, pair(v(-1), y), fault(c.code, at+2))
				refused(t, what+", and another behind", ctx, pair(y, term(0)), fault(c.code, at+1))
				refused(t, what+", and no context", nil, y, want)
			}
		})
	}
	for kind := api.TVar; kind <= api.TUnit; kind++ {
		if kinds[kind] == 0 {
			t.Errorf("no node of the kind %d", kind)
		}
	}
}

func TestFaultsOfTypes(t *testing.T) {
	id := lam("p", v(0))
	for _, c := range []struct {
		ctx  string
		x    api.Term
		want api.Fault
	}{
		// Names that are not there.
		{"", v(0), fault(api.ErrRange, 0)},
		{"", v(-1), fault(api.ErrRange, 0)},
		{"p, q", v(2), fault(api.ErrRange, 0)},
		{"p, q", v(-1), fault(api.ErrRange, 0)},
		{"p, q", v(1 << 62), fault(api.ErrRange, 0)},
		{"p, q", v(-1 << 63), fault(api.ErrRange, 0)},
		{"", lam("p", v(1)), fault(api.ErrRange, 1)},
		{"", lam("p", v(-1)), fault(api.ErrRange, 1)},
		{"p", lam("p", lam("p", v(3))), fault(api.ErrRange, 2)},
		{"", pair(id, v(0)), fault(api.ErrRange, 3)},
		{"", app(v(0), id), fault(api.ErrRange, 1)},
		{"p | q", either(v(1), unit(), unit()), fault(api.ErrRange, 1)},
		{"p | q", either(v(0), v(2), unit()), fault(api.ErrRange, 2)},
		{"p | q", either(v(0), unit(), v(2)), fault(api.ErrRange, 3)},
		{"p | q", pair(either(v(0), unit(), unit()), v(1)), fault(api.ErrRange, 5)},
		// TApp: no function, or not of this.
		{"p", app(v(0), v(0)), fault(api.ErrFalse, 0)},
		{"p & p, p", app(v(0), v(1)), fault(api.ErrFalse, 0)},
		{"0, p", app(v(0), v(1)), fault(api.ErrFalse, 0)},
		{"p -> q, q", app(v(0), v(1)), fault(api.ErrFalse, 0)},
		{"~p, q", app(v(0), v(1)), fault(api.ErrFalse, 0)},
		{"p, q -> p", app(v(0), v(1)), fault(api.ErrFalse, 0)},
		{"p", app(id, unit()), fault(api.ErrFalse, 0)},
		{"p -> 1", lam("q", pair(unit(), app(v(1), v(0)))), fault(api.ErrFalse, 3)},
		// TFirst and TSecond: no pair.
		{"p", first(v(0)), fault(api.ErrFalse, 0)},
		{"p | p", first(v(0)), fault(api.ErrFalse, 0)},
		{"p -> p", second(v(0)), fault(api.ErrFalse, 0)},
		{"~(p & p)", second(v(0)), fault(api.ErrFalse, 0)},
		{"p & q", first(first(v(0))), fault(api.ErrFalse, 0)},
		{"p & q", first(second(first(v(0)))), fault(api.ErrFalse, 1)},
		{"", second(unit()), fault(api.ErrFalse, 0)},
		// TLeft and TRight: of another side.
		{"p", left("q | p", v(0)), fault(api.ErrFalse, 0)},
		{"p", right("p | q", v(0)), fault(api.ErrFalse, 0)},
		{"p | q", left("p | q", v(0)), fault(api.ErrFalse, 0)},
		{"p", left("~p | p", v(0)), fault(api.ErrFalse, 0)},
		{"~p", right("p | (p -> 1)", v(0)), fault(api.ErrFalse, 0)},
		// TCase: no or, which goes ahead of what is in the others; or these differ.
		{"p & q", either(v(0), unit(), unit()), fault(api.ErrFalse, 0)},
		{"p", either(v(0), v(9), v(9)), fault(api.ErrFalse, 0)},
		{"p", either(v(0), first(unit()), app(unit(), unit())), fault(api.ErrFalse, 0)},
		{"~(p | q)", either(v(0), unit(), unit()), fault(api.ErrFalse, 0)},
		{"p | q", either(v(0), v(0), v(0)), fault(api.ErrFalse, 0)},
		{"p | q", either(v(0), v(1), v(0)), fault(api.ErrFalse, 0)},
		{"p | q", either(v(0), unit(), v(0)), fault(api.ErrFalse, 0)},
		{"p | q", either(v(0), unit(), either(v(0), unit(), unit())), fault(api.ErrFalse, 3)},
		{"p | q", either(v(0), either(v(0), unit(), unit()), v(7)), fault(api.ErrFalse, 2)},
		{"p | q", either(v(0), v(0), v(7)), fault(api.ErrRange, 3)},
		{"p | q", either(v(0), v(7), first(v(0))), fault(api.ErrRange, 2)},
		{"p", either(first(v(0)), v(9), v(9)), fault(api.ErrFalse, 1)},
		{"p", either(v(9), v(9), v(9)), fault(api.ErrRange, 1)},
		// TAbsurd: of something.
		{"p", absurd("q", v(0)), fault(api.ErrFalse, 0)},
		{"", absurd("0", unit()), fault(api.ErrFalse, 0)},
		{"~0", absurd("p", v(0)), fault(api.ErrFalse, 0)},
		{"0", absurd("p", absurd("q", v(0))), fault(api.ErrFalse, 0)},
		// Each is told behind those in it.
		{"p", app(v(0), v(9)), fault(api.ErrRange, 2)},
		{"p", app(v(0), first(v(0))), fault(api.ErrFalse, 2)},
		{"p", first(first(v(9))), fault(api.ErrRange, 2)},
		{"p", left("q | q", v(9)), fault(api.ErrRange, 1)},
		{"p", absurd("q", v(9)), fault(api.ErrRange, 1)},
		{"p", pair(first(v(0)), v(9)), fault(api.ErrFalse, 1)},
		{"p", pair(v(9), first(v(0))), fault(api.ErrRange, 1)},
		{"p", lam("p", app(first(v(0)), v(9))), fault(api.ErrFalse, 2)},
	} {
		refused(t, told(c.x)+" in "+c.ctx, context(c.ctx), c.x, c.want)
		inferred(t, context(c.ctx), c.x)
		// Nothing is told of a later pass where an earlier one tells something.
		refused(t, "with no kind behind", context(c.ctx), pair(c.x, term(0)), fault(api.ErrKind, sizeOf(c.x)+1))
		refused(t, "with no Of behind", context(c.ctx), pair(c.x, api.Term{Kind: api.TLam, Kids: []api.Term{v(0)}}), fault(api.ErrForm, sizeOf(c.x)+1))
		refused(t, "with another one behind", context(c.ctx), pair(c.x, v(99)), fault(c.want.Code, c.want.At+1))
	}
}

// changed is x with something else at one node, by chance.
func changed(chance *rand.Rand, x api.Term) api.Term {
	at := chance.Intn(sizeOf(x))
	var walk func(y api.Term) api.Term
	walk = func(y api.Term) api.Term {
		out := y
		out.Kids = slices.Clone(y.Kids)
		here := at == 0
		at--
		for i, k := range y.Kids {
			out.Kids[i] = walk(k)
		}
		if !here {
			return out
		}
		switch chance.Intn(8) {
		case 0:
			out.Kind = chance.Intn(14) - 1
		case 1:
			out.I = chance.Intn(5) - 1
		case 2:
			out.Of = []api.Formula{{}, name("p"), read("p | q"), read("~p"), node(api.FBox, name("p")), name("")}[chance.Intn(6)]
		case 3:
			out.Kids = append(out.Kids, v(chance.Intn(3)))
		case 4:
			if len(out.Kids) > 0 {
				return out.Kids[chance.Intn(len(out.Kids))]
			}
			return v(chance.Intn(9))
		case 5:
			slices.Reverse(out.Kids)
		default:
			return []api.Term{unit(), v(chance.Intn(9)), lam("p", out), first(out), pair(out, out), absurd("q", out), left("p | q", out)}[chance.Intn(7)]
		}
		return out
	}
	return walk(x)
}

// TestWhichFaultIsFirst: terms with one or more changes by chance, held against the second reckoning.
func TestWhichFaultIsFirst(t *testing.T) {
	m := maker{rand.New(rand.NewSource(3))}
	count := map[int]int{}
	for range 6000 {
		ctx := with(m.formula(2), context("p, 0, q"))
		x := m.term(ctx, m.formula(2), 4)
		if sizeOf(x) > 150 {
			continue
		}
		for range 1 + m.chance.Intn(4) {
			x = changed(m.chance, x)
		}
		_, e := inferred(t, ctx, x)
		count[e.Code]++
		if e != (api.Fault{}) {
			refused(t, told(x), ctx, x, e)
		}
	}
	for _, code := range []int{api.OK, api.ErrKind, api.ErrSize, api.ErrForm, api.ErrRange, api.ErrFalse} {
		if count[code] < 100 {
			t.Errorf("the code %d comes %d times", code, count[code])
		}
	}
}

// TestFaultsOfInhabit: those of chapter 2, At a node, whatever else there is.
func TestFaultsOfInhabit(t *testing.T) {
	p := name("p")
	for what, c := range broken() {
		noTerm(t, what, c.f, plainFault(c.f))
		if plainFault(c.f).Code != c.code {
			t.Errorf("%s: %v", what, plainFault(c.f))
		}
		f := node(api.FThen, p, c.f)
		noTerm(t, what+" behind p", f, plainFault(f))
	}
	noTerm(t, "box at 3", read("p -> ~[]p"), fault(api.ErrKind, 3))
	noTerm(t, "diamond ahead of box", read("(p -> <>p) & []p"), fault(api.ErrKind, 3))
	noTerm(t, "a fault goes ahead of a box", node(api.FAnd, read("[]p"), name("P")), fault(api.ErrName, 3))
	noTerm(t, "more than MaxSubs formulas, and a box", read("a & b & c & d & e & f & []g"), fault(api.ErrKind, 12))
}

// plainFault is chapter 2's fault.
func plainFault(f api.Formula) api.Fault {
	if e := formula.Check(f); e.Code != api.OK {
		return e
	}
	at := -1
	var walk func(g api.Formula) bool
	walk = func(g api.Formula) bool {
		at++
		return g.Kind == api.FBox || g.Kind == api.FDia || slices.ContainsFunc(g.Kids, walk)
	}
	if walk(f) {
		return fault(api.ErrKind, at)
	}
	return api.Fault{}
}
