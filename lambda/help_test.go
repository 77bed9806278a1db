package lambda_test

import (
	"reflect"
	"slices"
	"strconv"
	"strings"
	"testing"

	"sequent/api"
	"sequent/formula"
	"sequent/lambda"
)

func fault(code, at int) api.Fault { return api.Fault{Code: code, At: at} }

func name(s string) api.Formula { return api.Formula{Kind: api.FVar, Name: s} }

func node(kind int, kids ...api.Formula) api.Formula {
	return api.Formula{Kind: kind, Kids: kids}
}

// nots is f below so many FNot.
func nots(n int, f api.Formula) api.Formula {
	for range n {
		f = node(api.FNot, f)
	}
	return f
}

// doubled joins f with itself so many times.
func doubled(kind, times int, f api.Formula) api.Formula {
	for range times {
		f = node(kind, f, f)
	}
	return f
}

// endless holds itself.
func endless() api.Formula {
	kids := make([]api.Formula, 1)
	kids[0] = api.Formula{Kind: api.FNot, Kids: kids}
	return kids[0]
}

// read is a formula of a test's own text.
func read(text string) api.Formula {
	f, e := formula.Parse(text)
	if e != (api.Fault{}) {
		panic("no formula: " + text)
	}
	return f
}

// context is a list of formulas with commas between them.
func context(text string) []api.Formula {
	var l []api.Formula
	for one := range strings.SplitSeq(text, ",") {
		if strings.TrimSpace(one) != "" {
			l = append(l, read(one))
		}
	}
	return l
}

// text writes any formula, with brackets around all that has Kids: types may have more nodes than Print takes.
func text(f api.Formula) string {
	switch f.Kind {
	case api.FVar:
		return f.Name
	case api.FTrue:
		return "1"
	case api.FFalse:
		return "0"
	}
	out := "(" + strconv.Itoa(f.Kind)
	for _, k := range f.Kids {
		out += " " + text(k)
	}
	return out + ")"
}

func term(kind int, kids ...api.Term) api.Term { return api.Term{Kind: kind, Kids: kids} }

func withOf(kind int, of string, t api.Term) api.Term {
	return api.Term{Kind: kind, Of: read(of), Kids: []api.Term{t}}
}

func v(i int) api.Term { return api.Term{Kind: api.TVar, I: i} }

func lam(of string, t api.Term) api.Term { return withOf(api.TLam, of, t) }

func app(t, u api.Term) api.Term { return term(api.TApp, t, u) }

func pair(t, u api.Term) api.Term { return term(api.TPair, t, u) }

func first(t api.Term) api.Term { return term(api.TFirst, t) }

func second(t api.Term) api.Term { return term(api.TSecond, t) }

func left(of string, t api.Term) api.Term { return withOf(api.TLeft, of, t) }

func right(of string, t api.Term) api.Term { return withOf(api.TRight, of, t) }

func either(t, u, w api.Term) api.Term { return term(api.TCase, t, u, w) }

func absurd(of string, t api.Term) api.Term { return withOf(api.TAbsurd, of, t) }

func unit() api.Term { return term(api.TUnit) }

// told writes a term.
func told(t api.Term) string {
	out := strconv.Itoa(t.Kind)
	if t.Kind == api.TVar || t.I != 0 {
		out += "." + strconv.Itoa(t.I)
	}
	if t.Of.Kind != 0 {
		out += "<" + text(t.Of) + ">"
	}
	if len(t.Kids) == 0 {
		return out
	}
	var kids []string
	for _, k := range t.Kids {
		kids = append(kids, told(k))
	}
	return out + "[" + strings.Join(kids, ", ") + "]"
}

func texts(l []api.Formula) string {
	var out []string
	for _, f := range l {
		out = append(out, text(f))
	}
	return strings.Join(out, ", ")
}

func isSameFormula(f, g api.Formula) bool {
	return f.Kind == g.Kind && f.Name == g.Name && slices.EqualFunc(f.Kids, g.Kids, isSameFormula)
}

// isSame takes empty lists for none, as the document does.
func isSame(t, u api.Term) bool {
	return t.Kind == u.Kind && t.I == u.I && isSameFormula(t.Of, u.Of) && slices.EqualFunc(t.Kids, u.Kids, isSame)
}

func sizeOf(t api.Term) int {
	n := 1
	for _, k := range t.Kids {
		n += sizeOf(k)
	}
	return n
}

// asType is the type for which f stands.
func asType(f api.Formula) api.Formula {
	out := api.Formula{Kind: f.Kind, Name: f.Name}
	for _, k := range f.Kids {
		out.Kids = append(out.Kids, asType(k))
	}
	if f.Kind == api.FNot {
		return node(api.FThen, out.Kids[0], node(api.FFalse))
	}
	return out
}

func hasModal(f api.Formula) bool {
	return f.Kind == api.FBox || f.Kind == api.FDia || slices.ContainsFunc(f.Kids, hasModal)
}

// plainCode is what is wrong with a formula that should be plain.
func plainCode(f api.Formula) int {
	if e := formula.Check(f); e.Code != api.OK {
		return e.Code
	}
	if hasModal(f) {
		return api.ErrKind
	}
	return api.OK
}

// The second reckoning of Infer: faults are handed back from node to node.

func reckoned(ctx []api.Formula, t api.Term) (api.Formula, api.Fault) {
	if len(ctx) > 30 {
		return api.Formula{}, fault(api.ErrMany, 0)
	}
	var types []api.Formula
	for at, f := range ctx {
		if code := plainCode(f); code != api.OK {
			return api.Formula{}, fault(code, at)
		}
		types = append(types, asType(f))
	}
	for at, n := range nodesOf(t) {
		if at == api.MaxTerm {
			return api.Formula{}, fault(api.ErrMany, 0)
		}
		if code := formCode(n); code != api.OK {
			return api.Formula{}, fault(code, at)
		}
	}
	return typeIn(types, t, 0)
}

// nodesOf are those of t, each ahead of its Kids, but not many more than MaxTerm.
func nodesOf(t api.Term) []api.Term {
	all, rest := []api.Term(nil), []api.Term{t}
	for len(rest) > 0 && len(all) <= api.MaxTerm {
		all = append(all, rest[0])
		rest = slices.Concat(rest[0].Kids[:min(len(rest[0].Kids), api.MaxTerm)], rest[1:])
	}
	return all
}

func formCode(t api.Term) int {
	kids := map[int]int{api.TVar: 0, api.TLam: 1, api.TApp: 2, api.TPair: 2, api.TFirst: 1, api.TSecond: 1, api.TLeft: 1, api.TRight: 1, api.TCase: 3, api.TAbsurd: 1, api.TUnit: 0}
	n, known := kids[t.Kind]
	if !known {
		return api.ErrKind
	}
	if len(t.Kids) != n {
		return api.ErrSize
	}
	isSide := t.Kind == api.TLeft || t.Kind == api.TRight
	if isSide || t.Kind == api.TLam || t.Kind == api.TAbsurd {
		if plainCode(t.Of) != api.OK || isSide && t.Of.Kind != api.FOr {
			return api.ErrForm
		}
	} else if t.Of.Kind != 0 || t.Of.Name != "" || len(t.Of.Kids) > 0 {
		return api.ErrForm
	}
	if t.Kind != api.TVar && t.I != 0 {
		return api.ErrForm
	}
	return api.OK
}

// namesAround are the types of the names of the Kid i, where those before it have the types that are handed in.
func namesAround(ctx []api.Formula, t api.Term, i int, kids []api.Formula) []api.Formula {
	switch {
	case t.Kind == api.TLam:
		return slices.Concat([]api.Formula{asType(t.Of)}, ctx)
	case t.Kind == api.TCase && i > 0:
		return slices.Concat([]api.Formula{kids[0].Kids[i-1]}, ctx)
	}
	return ctx
}

func typeIn(ctx []api.Formula, t api.Term, at int) (api.Formula, api.Fault) {
	var kids []api.Formula
	next := at + 1
	for i, k := range t.Kids {
		if t.Kind == api.TCase && i == 1 && kids[0].Kind != api.FOr {
			return api.Formula{}, fault(api.ErrFalse, at)
		}
		f, e := typeIn(namesAround(ctx, t, i, kids), k, next)
		if e != (api.Fault{}) {
			return api.Formula{}, e
		}
		kids = append(kids, f)
		next += sizeOf(k)
	}
	if t.Kind == api.TVar && (t.I < 0 || t.I >= len(ctx)) {
		return api.Formula{}, fault(api.ErrRange, at)
	}
	f, fits := typeOver(ctx, t, kids)
	if !fits {
		return api.Formula{}, fault(api.ErrFalse, at)
	}
	return f, api.Fault{}
}

// typeOver is t's type, where its Kids have these.
func typeOver(ctx []api.Formula, t api.Term, kids []api.Formula) (api.Formula, bool) {
	of := asType(t.Of)
	switch t.Kind {
	case api.TVar:
		return ctx[t.I], true
	case api.TLam:
		return node(api.FThen, of, kids[0]), true
	case api.TApp:
		if kids[0].Kind != api.FThen {
			return api.Formula{}, false
		}
		return kids[0].Kids[1], isSameFormula(kids[0].Kids[0], kids[1])
	case api.TPair:
		return node(api.FAnd, kids[0], kids[1]), true
	case api.TFirst, api.TSecond:
		if kids[0].Kind != api.FAnd {
			return api.Formula{}, false
		}
		return kids[0].Kids[t.Kind-api.TFirst], true
	case api.TLeft, api.TRight:
		return of, isSameFormula(of.Kids[t.Kind-api.TLeft], kids[0])
	case api.TCase:
		return kids[1], isSameFormula(kids[1], kids[2])
	case api.TAbsurd:
		return of, kids[0].Kind == api.FFalse
	}
	return node(api.FTrue), true
}

// inferred holds Infer against the second reckoning.
func inferred(t *testing.T, ctx []api.Formula, x api.Term) (api.Formula, api.Fault) {
	t.Helper()
	f, e := lambda.Infer(ctx, x)
	want, wantFault := reckoned(ctx, x)
	if e != wantFault || e == (api.Fault{}) && !isSameFormula(f, want) {
		t.Fatalf("%s in %s: %s, %v, want %s, %v", told(x), texts(ctx), text(f), e, text(want), wantFault)
	}
	if e != (api.Fault{}) && !reflect.DeepEqual(f, api.Formula{}) {
		t.Fatalf("%s: %s beside the fault %v", told(x), text(f), e)
	}
	return f, e
}

// refused looks that Infer and Normal tell just this fault.
func refused(t *testing.T, what string, ctx []api.Formula, x api.Term, want api.Fault) {
	t.Helper()
	if f, e := lambda.Infer(ctx, x); e != want || !reflect.DeepEqual(f, api.Formula{}) {
		t.Errorf("%s: Infer tells %v, %v, want %v", what, f, e, want)
	}
	if out, e := lambda.Normal(ctx, x); e != want || !reflect.DeepEqual(out, api.Term{}) {
		t.Errorf("%s: Normal tells %v, %v, want %v", what, out, e, want)
	}
}

// The second reckoning of Normal: steps on terms themselves, one by one.

func bindsName(t api.Term, i int) bool { return t.Kind == api.TLam || t.Kind == api.TCase && i > 0 }

// mapped is t with another term for each name; it is told how many names are bound around that one in t.
func mapped(t api.Term, bound int, put func(x api.Term, bound int) api.Term) api.Term {
	if t.Kind == api.TVar {
		return put(t, bound)
	}
	out := api.Term{Kind: t.Kind, Of: t.Of}
	for i, k := range t.Kids {
		inner := bound
		if bindsName(t, i) {
			inner++
		}
		out.Kids = append(out.Kids, mapped(k, inner, put))
	}
	return out
}

// shifted is t under so many names more.
func shifted(t api.Term, by int) api.Term {
	return mapped(t, 0, func(x api.Term, bound int) api.Term {
		if x.I >= bound {
			return v(x.I + by)
		}
		return x
	})
}

// put is t with u for its innermost name.
func put(t, u api.Term) api.Term {
	return mapped(t, 0, func(x api.Term, bound int) api.Term {
		switch {
		case x.I == bound:
			return shifted(u, bound)
		case x.I > bound:
			return v(x.I - 1)
		}
		return x
	})
}

// stepped does the step at t's first node, if there is one.
func stepped(t api.Term) (api.Term, bool) {
	if len(t.Kids) == 0 {
		return api.Term{}, false
	}
	k := t.Kids[0]
	switch {
	case t.Kind == api.TApp && k.Kind == api.TLam:
		return put(k.Kids[0], t.Kids[1]), true
	case (t.Kind == api.TFirst || t.Kind == api.TSecond) && k.Kind == api.TPair:
		return k.Kids[t.Kind-api.TFirst], true
	case t.Kind == api.TCase && (k.Kind == api.TLeft || k.Kind == api.TRight):
		return put(t.Kids[1+k.Kind-api.TLeft], k.Kids[0]), true
	}
	return api.Term{}, false
}

// steps counts the nodes of t at which one is to be done.
func steps(t api.Term) int {
	n := 0
	if _, can := stepped(t); can {
		n++
	}
	for _, k := range t.Kids {
		n += steps(k)
	}
	return n
}

// stepAt does the step with the number at, outer ones first.
func stepAt(t api.Term, at int) api.Term {
	if out, can := stepped(t); can {
		if at == 0 {
			return out
		}
		at--
	}
	out := t
	out.Kids = slices.Clone(t.Kids)
	for i, k := range t.Kids {
		n := steps(k)
		if at < n {
			out.Kids[i] = stepAt(k, at)
			return out
		}
		at -= n
	}
	return out
}

// worked does steps as long as there are some; choose says which of so many. It gives up, if there are too many.
func worked(t api.Term, choose func(n int) int) (api.Term, bool) {
	for range 300 {
		n := steps(t)
		if n == 0 {
			return t, true
		}
		if sizeOf(t) > 2000 {
			break
		}
		t = stepAt(t, choose(n))
	}
	return t, false
}

// normal asks Normal of a term that has a type, and looks at all that can be seen in what comes out alone.
func normal(t *testing.T, ctx []api.Formula, x api.Term) api.Term {
	t.Helper()
	out, e := lambda.Normal(ctx, x)
	if e != (api.Fault{}) {
		t.Fatalf("%s: fault %v", told(x), e)
	}
	if n := steps(out); n > 0 {
		t.Fatalf("%s: %d steps are left in %s", told(x), n, told(out))
	}
	if sizeOf(out) > api.MaxTerm {
		return out
	}
	f, _ := lambda.Infer(ctx, x)
	g, e := lambda.Infer(ctx, out)
	if e != (api.Fault{}) || !isSameFormula(f, g) {
		t.Fatalf("%s: %s has %s, %v, want %s", told(x), told(out), text(g), e, text(f))
	}
	return out
}
