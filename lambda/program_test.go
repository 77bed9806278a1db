package lambda

import (
	"reflect"
	"strings"
	"testing"
	"unsafe"

	"sequent/api"
	"sequent/calculus"
	"sequent/formula"
)

func readAll(text string) []api.Formula {
	var l []api.Formula
	for one := range strings.SplitSeq(text, ",") {
		if strings.TrimSpace(one) == "" {
			continue
		}
		f, e := formula.Parse(one)
		if e.Code != api.OK {
			panic("no formula: " + one)
		}
		l = append(l, f)
	}
	return l
}

// step is a proof by a rule that speaks of f, of what is written as left => right.
func step(rule, f, end string, kids ...api.Proof) api.Proof {
	left, right, _ := strings.Cut(end, "=>")
	p := api.Proof{Rule: rule, End: api.Sequent{Left: readAll(left), Right: readAll(right)}, Kids: kids}
	if f != "" {
		p.F = readAll(f)[0]
	}
	return p
}

// TestProofsAsPrograms: proofs with each rule, also such as layer 5 does not find.
func TestProofsAsPrograms(t *testing.T) {
	not := step("not-l", "~p", "~p, p =>", step("ax", "p", "p => p"))
	for what, p := range map[string]api.Proof{
		"ax":      step("then-r", "p -> p", "=> p -> p", step("ax", "p", "p => p")),
		"true":    step("true", "1", "=> 1"),
		"false":   step("then-r", "0 -> p", "=> 0 -> p", step("false", "0", "0 => p")),
		"false 0": step("not-r", "~0", "=> ~0", step("false", "0", "0 =>")),
		"and-r":   step("and-r", "1 & ~0", "=> 1 & ~0", step("true", "1", "=> 1"), step("not-r", "~0", "=> ~0", step("false", "0", "0 =>"))),
		"and-l": step("then-r", "p & q -> q", "=> p & q -> q", step("and-l", "p & q", "p & q => q",
			step("ax", "q", "p, q => q"))),
		"or-l": step("then-r", "p | p -> p", "=> p | p -> p", step("or-l", "p | p", "p | p => p",
			step("ax", "p", "p => p"), step("ax", "p", "p => p"))),
		"or-r": step("or-r2", "0 | (1 | 0)", "=> 0 | (1 | 0)", step("or-r1", "1 | 0", "=> 1 | 0", step("true", "1", "=> 1"))),
		"then-l": step("then-r", "(1 -> p) -> p", "=> (1 -> p) -> p", step("then-l", "1 -> p", "1 -> p => p",
			step("true", "1", "=> 1"), step("ax", "p", "p => p"))),
		"not-l, nothing at the Right": step("then-r", "p -> ~~p", "=> p -> ~~p", step("not-r", "~~p", "p => ~~p", not)),
		"not-l, something there": step("then-r", "p -> ~p -> q", "=> p -> ~p -> q", step("then-r", "~p -> q", "p => ~p -> q",
			step("not-l", "~p", "p, ~p => q", step("ax", "p", "p => p")))),
		"weak at the Left": step("then-r", "p -> q -> p", "=> p -> q -> p", step("then-r", "q -> p", "p => q -> p",
			step("weak", "", "p, q => p", step("ax", "p", "p => p")))),
		"weak at the Right": step("then-r", "p -> ~p -> q", "=> p -> ~p -> q", step("then-r", "~p -> q", "p => ~p -> q",
			step("weak", "", "p, ~p => q", not))),
		"weak of nothing": step("then-r", "p -> ~~p", "=> p -> ~~p", step("not-r", "~~p", "p => ~~p", step("weak", "", "p, ~p =>", not))),
		"contr-l":         step("then-r", "p -> p", "=> p -> p", step("contr-l", "p", "p => p", step("ax", "p", "p, p => p"))),
		"contr-l of an and": step("then-r", "p & q -> q & p", "=> p & q -> q & p", step("contr-l", "p & q", "p & q => q & p",
			step("and-l", "p & q", "p & q, p & q => q & p", step("and-r", "q & p", "p & q, p, q => q & p",
				step("ax", "q", "p & q, p, q => q"), step("and-l", "p & q", "p & q, p, q => p", step("ax", "p", "p, q, p, q => p")))))),
	} {
		if e := calculus.Check(p, true); e != (api.Fault{}) {
			t.Errorf("%s: no proof: %v", what, e)
		}
		x := programOf(p)
		got, e := Infer(nil, x)
		y := newTyper(nil)
		if want := y.table.Formula(y.number(p.End.Right[0])); e != (api.Fault{}) || !reflect.DeepEqual(got, want) {
			t.Errorf("%s: %v has %v, %v", what, x, got, e)
		}
	}
}

// TestFittingTerms: no formula is known whose term is too large, so that such terms are made here.
func TestFittingTerms(t *testing.T) {
	name := func(i int) api.Term { return api.Term{Kind: api.TVar, I: i} }
	or := readAll("p | p")[0]
	three := api.Term{Kind: api.TLam, Of: or, Kids: []api.Term{{Kind: api.TCase, Kids: []api.Term{name(0), name(1), name(1)}}}}
	many := func(times int) api.Term {
		x := name(0)
		for range times {
			x = applied(three, x)
		}
		return termWith(api.TLam, or, x)
	}
	small, e := fitting(many(2))
	want, _ := Normal(nil, many(2))
	if e != (api.Fault{}) || !reflect.DeepEqual(small, want) || reflect.DeepEqual(small, many(2)) {
		t.Errorf("small: %v, %v", small, e)
	}
	for what, times := range map[string]int{"more than a term may have": 10, "too much": 40} {
		if x, e := fitting(many(times)); e != (api.Fault{}) || !reflect.DeepEqual(x, many(times)) {
			t.Errorf("%s: %v", what, e)
		}
	}
	if x, e := fitting(many(api.MaxTerm)); e != (api.Fault{Code: api.ErrMuch}) || !reflect.DeepEqual(x, api.Term{}) {
		t.Errorf("%v", e)
	}
}

// TestBounds: few nodes have no bound but that of all answers, which is counted as it lies in memory.
func TestBounds(t *testing.T) {
	if unsafe.Sizeof(api.Term{}) != termBytes || unsafe.Sizeof(api.Formula{}) != formulaBytes {
		t.Error("nodes have other sizes")
	}
	if boundsFor(24) != boundsFor(1) || boundsFor(24).bytes != 1<<31-1 || boundsFor(25) == boundsFor(24) {
		t.Errorf("%v, %v, %v", boundsFor(1), boundsFor(24), boundsFor(25))
	}
}
