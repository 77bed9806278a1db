package resolve_test

import (
	"math"
	"math/rand"
	"slices"
	"strings"
	"testing"

	"sequent/api"
	"sequent/resolve"
)

// replayed tells what Replay says of steps behind those that only take the clauses of the list, with numbers counted from the first one behind them.
func replayed(t *testing.T, list, steps string) api.Fault {
	t.Helper()
	l := readList(t, list)
	var all []api.Infer
	for at, c := range l {
		all = append(all, api.Infer{Kind: 1, A: at, Clause: c})
	}
	f := resolve.Replay(l, append(all, readSteps(t, steps)...))
	f.At -= len(l)
	return f
}

// isStep tells whether Replay takes a step behind those that take the clauses of the list.
func isStep(t *testing.T, list, step string) bool {
	t.Helper()
	f := replayed(t, list, step)
	if f != fault(api.ErrFalse, 0) && f != fault(api.ErrNone, 1) && f != (fault(0, -len(readList(t, list)))) {
		t.Errorf("%s: %s: fault %v", list, step, f)
	}
	return f.Code != api.ErrFalse
}

func areSteps(t *testing.T, list string, steps map[string]bool) {
	t.Helper()
	for step, want := range steps {
		if isStep(t, list, step) != want {
			t.Errorf("%s: %s: want %v", list, step, want)
		}
	}
}

func TestReplaySaysNothing(t *testing.T) {
	for list, steps := range map[string]string{
		"P; ~P":                          "1 0: P; 1 1: ~P; 2 0 1 0 0:",
		";":                              "1 0:",
		"P; ":                            "1 1:",
		"P; ;~P":                         "1 0: P; 1 1:",
		"P(x); ~P(C)":                    "1 1: ~P(C); 1 0: P(z); 2 0 1 0 0:",
		"P(C); ~P(x) P(F(x)); ~P(F(x))":  "1 0: P(C); 1 1: ~P(x) P(F(x)); 1 2: ~P(F(x)); 2 1 0 0 0: P(F(C)); 2 3 2 0 0:",
		"P(x) P(y); ~P(x) ~P(y)":         "1 0: P(x) P(y); 3 0 0 1: P(x); 1 1: ~P(x) ~P(y); 2 2 1 1 0: ~P(x); 2 3 1 0 0:",
		"P(x) P(y); ~P(x) ~P(y); R":      "1 0: P(x) P(y); 1 1: ~P(x) ~P(y); 1 2: R; 3 0 1 0: P(y); 3 1 0 1: ~P(u); 2 3 4 0 0:",
		"R R; ~R":                        "1 0: R R; 1 1: ~R; 2 0 1 1 0: R; 2 1 2 0 0:",
		"S(x,x) S(B,x); ~S(x,x) ~S(B,x)": "1 0: S(x,x) S(B,x); 1 1: ~S(x,x) ~S(B,x); 3 0 0 1: S(B,B); 3 1 0 1: ~S(B,B); 2 2 3 0 0:",
	} {
		sameFault(t, list, resolve.Replay(readList(t, list), readSteps(t, steps)), api.Fault{})
	}
}

// TestReplayOfNoSteps: the last one must have no literals, and there must be one.
func TestReplayOfNoSteps(t *testing.T) {
	l := readList(t, "P; ~P; ")
	sameFault(t, "no steps", resolve.Replay(l, nil), fault(api.ErrNone, 0))
	sameFault(t, "no clauses either", resolve.Replay(nil, nil), fault(api.ErrNone, 0))
	steps := readSteps(t, "1 2: ; 1 0: P; 1 1: ~P; 2 1 2 0 0:; 1 0: P")
	for n, want := range []api.Fault{fault(api.ErrNone, 0), {}, fault(api.ErrNone, 2), fault(api.ErrNone, 3), {}, fault(api.ErrNone, 5)} {
		sameFault(t, "some of the steps", resolve.Replay(l, steps[:n]), want)
	}
}

func TestReplayOfManySteps(t *testing.T) {
	l := readList(t, "P; ")
	full := slices.Repeat(readSteps(t, "1 0: P"), 1001)
	full[999].A, full[999].Clause = 1, nil
	sameFault(t, "1000 steps", resolve.Replay(l, full[:1000]), api.Fault{})
	sameFault(t, "999 steps", resolve.Replay(l, full[:999]), fault(api.ErrNone, 999))
	sameFault(t, "1001 steps", resolve.Replay(l, full), fault(api.ErrMany, 0))
	full[1000] = full[999]
	sameFault(t, "1001 steps, the last without literals", resolve.Replay(l, full), fault(api.ErrMany, 0))
	full[0] = api.Infer{Clause: []api.Literal{{}}}
	sameFault(t, "1001 steps, the first wrong", resolve.Replay(l, full), fault(api.ErrMany, 0))
	sameFault(t, "very many steps", resolve.Replay(l, make([]api.Infer, 1<<20)), fault(api.ErrMany, 0))
	sameFault(t, "1000 steps, the first wrong", resolve.Replay(l, full[:1000]), fault(api.ErrForm, 0))
}

// TestFormsOfSteps: whatever Check says of a clause by itself, and whatever else is wrong.
func TestFormsOfSteps(t *testing.T) {
	l := readList(t, "P; ~P")
	steps := readSteps(t, "1 0: P; 1 1: ~P; 2 0 1 0 0:")
	for _, c := range faultyClauses() {
		for at, s := range steps {
			for _, kind := range []int{s.Kind, 0, 4} {
				marred := slices.Clone(steps)
				marred[at].Clause, marred[at].Kind = c.clause, kind
				sameFault(t, c.what, resolve.Replay(l, marred), fault(api.ErrForm, at))
				marred[at].A, marred[at].J = -1, 7
				sameFault(t, c.what+", nothing there", resolve.Replay(l, marred), fault(api.ErrForm, at))
			}
		}
	}
	for _, c := range rightClauses(t) {
		l := [][]api.Literal{c}
		want := fault(api.ErrNone, 1)
		if len(c) == 0 {
			want = api.Fault{}
		}
		sameFault(t, told(c), resolve.Replay(l, []api.Infer{{Kind: 1, Clause: c}}), want)
	}
}

// farOut are numbers at which nothing is, where n is the first one.
func farOut(n int) []int {
	return []int{-1, -2, n, n + 1, n + 100, 1 << 32, -1 << 32, math.MaxInt, math.MinInt, math.MinInt + 1}
}

func TestKindsOfSteps(t *testing.T) {
	l := readList(t, "P; ~P")
	for _, kind := range append(farOut(4), 0) {
		steps := readSteps(t, "1 0: P; 1 1: ~P; 2 0 1 0 0:")
		steps[2].Kind = kind
		sameFault(t, "kind", resolve.Replay(l, steps), fault(api.ErrKind, 2))
		steps[2].A = 9
		sameFault(t, "kind, and nothing there", resolve.Replay(l, steps), fault(api.ErrKind, 2))
		steps[0].Kind = kind
		sameFault(t, "first kind", resolve.Replay(l, steps), fault(api.ErrKind, 0))
	}
	sameFault(t, "zero steps", resolve.Replay(nil, make([]api.Infer, 3)), fault(api.ErrKind, 0))
}

// numbers are those of a step: what they name, and the first number at which none of it is.
func numbers(s *api.Infer) map[string]*int {
	return map[string]*int{"A": &s.A, "B": &s.B, "I": &s.I, "J": &s.J}
}

// TestRangesOfSteps: each number by itself, with a clause that is what comes of the step as it was and with one that is not.
func TestRangesOfSteps(t *testing.T) {
	l := readList(t, "P(x) Q; ~P(C) R R; ~Q; ~R; S")
	const behind = "; 1 0: P(x) Q; 1 1: ~P(C) R R"
	for _, c := range []struct {
		steps string
		ends  map[string]int // where nothing is any more; 1 where a number must be 0
	}{
		{"1 0: P(x) Q; 1 1: ~P(C) R R; 1 2: ~Q", map[string]int{"A": 5, "B": 1, "I": 1, "J": 1}},
		{"1 0: P(x) Q; 1 1: ~P(C) R R; 2 0 1 0 0: Q R R", map[string]int{"A": 2, "B": 2, "I": 2, "J": 3}},
		{"1 0: P(x) Q; 1 1: ~P(C) R R; 2 1 0 0 0: R R Q", map[string]int{"A": 2, "B": 2, "I": 3, "J": 2}},
		{"1 0: P(x) Q; 1 1: ~P(C) R R; 3 1 1 2: ~P(C) R", map[string]int{"A": 2, "B": 1, "I": 3, "J": 3}},
	} {
		steps := readSteps(t, c.steps+behind)
		sameFault(t, c.steps, resolve.Replay(l, steps), fault(api.ErrNone, 5))
		for name, end := range c.ends {
			for _, number := range farOut(end) {
				for _, clause := range [][]api.Literal{steps[2].Clause, nil, readClause(t, "T")} {
					marred := slices.Clone(steps)
					marred[2].Clause = clause
					*numbers(&marred[2])[name] = number
					sameFault(t, c.steps+" "+name, resolve.Replay(l, marred), fault(api.ErrRange, 2))
				}
			}
		}
	}
}

// TestStepsNameStepsAhead: not themselves, and none behind them, though there are such ones.
func TestStepsNameStepsAhead(t *testing.T) {
	l := readList(t, "P Q; ~P Q; ~Q")
	for text, want := range map[string]api.Fault{
		"2 0 0 0 0: P":                                       fault(api.ErrRange, 0),
		"3 0 0 1: P":                                         fault(api.ErrRange, 0),
		"2 1 2 0 0: Q Q; 1 0: P Q; 1 1: ~P Q":                fault(api.ErrRange, 0),
		"1 0: P Q; 2 0 2 0 0: Q Q; 1 1: ~P Q":                fault(api.ErrRange, 1),
		"1 0: P Q; 2 2 0 0 0: Q Q; 1 1: ~P Q":                fault(api.ErrRange, 1),
		"1 0: P Q; 2 0 1 0 0: Q Q; 1 1: ~P Q":                fault(api.ErrRange, 1),
		"1 0: P Q; 3 1 0 1: P":                               fault(api.ErrRange, 1),
		"1 0: P Q; 1 1: ~P Q; 2 0 1 0 0: Q Q; 3 2 0 1: Q":    fault(api.ErrNone, 4),
		"1 1: ~P Q; 1 2: ~Q; 2 0 1 1 0: ~P; 2 2 0 0 0: Q":    fault(api.ErrFalse, 3),
		"1 1: ~P Q; 1 2: ~Q; 2 0 1 1 0: ~P; 3 2 0 1: ~P":     fault(api.ErrRange, 3), // Q, the second literal, is no longer there
		"1 0: P Q; 1 2: ~Q; 2 0 1 1 0: P; 2 2 1 1 0: P":      fault(api.ErrRange, 3),
		"1 0: P Q; 1 2: ~Q; 2 0 1 1 0: P; 2 0 2 0 1: Q":      fault(api.ErrRange, 3),
		"1 2: ~Q; 1 0: P Q; 2 1 0 1 0: P; 2 1 2 0 0: Q":      fault(api.ErrFalse, 3),
		"1 2: ~Q; 1 0: P Q; 1 1: ~P Q; 2 1 2 0 0: Q Q":       fault(api.ErrNone, 4),
		"1 2: ~Q; 1 0: P Q; 1 1: ~P Q; 2 1 2 0 0: Q Q; 1 3:": fault(api.ErrRange, 4),
	} {
		sameFault(t, text, resolve.Replay(l, readSteps(t, text)), want)
	}
}

// TestNoClausesAndNoLiterals: there is nothing to be named.
func TestNoClausesAndNoLiterals(t *testing.T) {
	sameFault(t, "no clauses", resolve.Replay(nil, readSteps(t, "1 0:")), fault(api.ErrRange, 0))
	l := readList(t, " ; P")
	for _, step := range []string{"2 0 1 0 0:", "2 1 0 0 0:", "2 0 0 0 0:", "3 0 0 0:"} {
		sameFault(t, step, resolve.Replay(l, readSteps(t, "1 0:; 1 1: P; "+step)), fault(api.ErrRange, 2))
	}
}

// TestWhichFaultOfAStepIsTold: the first one in the order of the document, and that of the earliest step.
func TestWhichFaultOfAStepIsTold(t *testing.T) {
	l := readList(t, "P; ~P")
	right := readSteps(t, "1 0: P; 1 1: ~P; 2 0 1 0 0:")
	form, kind, far, untrue := []api.Literal{{}}, 7, 9, readClause(t, "Q")
	wrong := []struct {
		code int
		s    api.Infer
	}{
		{api.ErrForm, api.Infer{Kind: kind, A: far, Clause: form}},
		{api.ErrForm, api.Infer{Kind: 1, A: far, Clause: form}},
		{api.ErrForm, api.Infer{Kind: 1, Clause: form}},
		{api.ErrKind, api.Infer{Kind: kind, A: far, Clause: untrue}},
		{api.ErrKind, api.Infer{Kind: kind, Clause: untrue}},
		{api.ErrKind, api.Infer{Kind: kind, Clause: l[0]}},
		{api.ErrRange, api.Infer{Kind: 1, A: far, Clause: untrue}},
		{api.ErrRange, api.Infer{Kind: 1, J: 1, Clause: l[0]}},
		{api.ErrFalse, api.Infer{Kind: 1, Clause: untrue}},
	}
	for _, c := range wrong {
		for _, other := range wrong {
			steps := append(slices.Clone(right), c.s, other.s)
			sameFault(t, "a wrong step behind right ones", resolve.Replay(l, steps), fault(c.code, 3))
			sameFault(t, "a wrong step ahead", resolve.Replay(l, steps[3:]), fault(c.code, 0))
		}
		sameFault(t, "a wrong step at the end", resolve.Replay(l, append(slices.Clone(right[:2]), c.s)), fault(c.code, 2))
		sameFault(t, "wrong clauses ahead", resolve.Replay([][]api.Literal{nil, {{}}}, []api.Infer{c.s}), fault(api.ErrName, 1))
	}
}

func TestGivenClauses(t *testing.T) {
	areSteps(t, "P(x,y,x) ~Q(F(y),C); R(x) R(y); ; ~R(C)", map[string]bool{
		"1 0: P(x,y,x) ~Q(F(y),C)":               true,
		"1 0: P(y,x,y) ~Q(F(x),C)":               true,
		"1 0: P(u,v,u) ~Q(F(v),C)":               true,
		"1 0: P(abcdefgh,y,abcdefgh) ~Q(F(y),C)": true,
		"1 0: P(x,x,x) ~Q(F(x),C)":               false,
		"1 0: P(x,y,x) ~Q(F(x),C)":               false,
		"1 0: P(x,y,y) ~Q(F(y),C)":               false,
		"1 0: P(x,y,z) ~Q(F(y),C)":               false,
		"1 0: P(x,y,x) ~Q(F(z),C)":               false,
		"1 0: P(x,y,x) ~Q(F(y),z)":               false,
		"1 0: P(x,C,x) ~Q(F(C),C)":               false,
		"1 0: P(D,y,D) ~Q(F(y),C)":               false,
		"1 0: P(x,y,x) ~Q(F(y),D)":               false,
		"1 0: P(x,y,x) ~Q(y,C)":                  false,
		"1 0: P(x,y,x) ~Q(F(y,y),C)":             false,
		"1 0: P(x,y,x) ~Q(F,C)":                  false,
		"1 0: P(x,y,x) Q(F(y),C)":                false,
		"1 0: ~P(x,y,x) ~Q(F(y),C)":              false,
		"1 0: P(x,y,x) ~P(F(y),C)":               false,
		"1 0: P(x,y) ~Q(F(y),C)":                 false,
		"1 0: P(x,y,x,x) ~Q(F(y),C)":             false,
		"1 0: ~Q(F(y),C) P(x,y,x)":               false,
		"1 0: P(x,y,x)":                          false,
		"1 0:":                                   false,
		"1 0: P(x,y,x) ~Q(F(y),C) R(z)":          false,
		"1 0: P(x,y,x) P(x,y,x) ~Q(F(y),C)":      false,
		"1 1: R(x) R(y)":                         true,
		"1 1: R(y) R(x)":                         true,
		"1 1: R(x) R(x)":                         false,
		"1 1: R(x)":                              false,
		"1 2:":                                   true,
		"1 2: R(x)":                              false,
		"1 3: ~R(C)":                             true,
		"1 3: ~R(x)":                             false,
		"1 3: ~R(D)":                             false,
		"1 1: ~R(C)":                             false,
	})
}

func TestResolvedLiterals(t *testing.T) {
	areSteps(t, "P(x) Q(x); ~P(F(x)) R(x); ~P(x) R; P(C,D) Q(x); ~P(C,D); P; ~P(x,F(x)); P(x,x) Q(x); ~Q(y)", map[string]bool{
		"2 0 1 0 0: Q(F(x)) R(x)": true, // B's x is another one than A's
		"2 0 1 0 0: Q(F(y)) R(y)": true,
		"2 0 1 0 0: Q(F(x)) R(y)": false,
		"2 0 1 0 0: Q(x) R(x)":    false,
		"2 0 1 0 0: Q(F(C)) R(C)": false, // not most general
		"2 0 1 0 0: R(x) Q(F(x))": false, // B's ahead of A's
		"2 0 1 0 0: Q(F(x))":      false,
		"2 0 1 0 0:":              false,
		"2 1 0 0 0: R(x) Q(F(x))": true,
		"2 1 0 0 0: Q(F(x)) R(x)": false,
		"2 0 2 0 0: Q(x) R":       true,
		"2 0 2 0 0: Q(y) R":       true,
		"2 0 2 0 0: Q(C) R":       false,
		"2 0 2 0 0: Q(x) R(x)":    false,
		"2 3 4 0 0: Q(x)":         true,
		"2 4 3 0 0: Q(x)":         true,
		"2 0 4 0 0: Q(x)":         false, // another number of words
		"2 5 2 0 0: R":            false,
		"2 5 4 0 0:":              false,
		"2 0 8 0 0: Q(x)":         false, // another name
		"2 0 8 1 0: P(x)":         true,
		"2 0 5 0 0: Q(x)":         false, // Not is the same
		"2 0 3 1 1: P(x) P(C,D)":  false,
		"2 1 2 0 0: R(x) R":       false,
		"2 4 6 0 0:":              false,
		"2 7 6 0 0: Q(x)":         false, // x would stand in itself
		"2 6 7 0 0: Q(x)":         false,
		"2 7 4 0 0: Q(C)":         false, // C is not D
		"2 7 8 1 0: P(x,x)":       true,
		"2 7 8 1 0: P(x,y)":       false,
	})
}

// TestNothingMakesWordsTheSame: with their own variables in both.
func TestNothingMakesWordsTheSame(t *testing.T) {
	for list, want := range map[string]bool{
		"P(C) R; ~P(D)":                       false,
		"P(F(x)) R; ~P(G(x))":                 false,
		"P(F(x)) R; ~P(F(x,x))":               false,
		"P(F(C)) R; ~P(F)":                    false,
		"P(x,F(x)) R; ~P(y,y)":                false,
		"P(x,x) R; ~P(y,F(y))":                false,
		"P(x,x) R; ~P(C,D)":                   false,
		"P(x,y,x) R; ~P(u,u,F(u))":            false,
		"P(x,F(y)) R; ~P(F(y),x)":             true,
		"P(x,y) R; ~P(y,x)":                   true,
		"P(x,F(x)) R; ~P(F(x),x)":             false,
		"P(x) R; ~P(F(x))":                    true,
		"P(x,F(x)) R; ~P(C,F(y))":             true,
		"P(x,y) R; ~P(F(y),F(x))":             true,
		"P(x,y,z) R; ~P(F(y),F(z),F(x))":      true,
		"P(x,y,x,y) R; ~P(F(v),F(u),u,v)":     false,
		"P(H(x,y),y) R; ~P(H(G(z,z),z),F(C))": true,
	} {
		if isStep(t, list, "2 0 1 0 0: R") != want || isStep(t, list, "2 1 0 0 0: R") != want {
			t.Errorf("%s: want %v", list, want)
		}
	}
}

// TestOneStepMayBeBoth: its variables are other ones in B.
func TestOneStepMayBeBoth(t *testing.T) {
	areSteps(t, "P(x) ~P(F(x)); P(x,y) ~P(y,x); P(C) ~P(C) R; P(x) P(y)", map[string]bool{
		"2 0 0 0 1: ~P(F(F(x))) P(x)":             true,
		"2 0 0 1 0: P(x) ~P(F(F(x)))":             true,
		"2 0 0 0 1: P(x) ~P(F(F(x)))":             false,
		"2 0 0 0 1: ~P(F(x)) P(x)":                false,
		"2 0 0 0 0: ~P(F(x)) ~P(F(y))":            false,
		"2 1 1 0 1: ~P(x,y) P(x,y)":               true,
		"2 1 1 0 1: ~P(x,y) P(y,x)":               false,
		"2 2 2 0 1: ~P(C) R P(C) R":               true,
		"2 2 2 1 0: P(C) R ~P(C) R":               true,
		"2 2 2 1 0: P(C) ~P(C) R R":               false,
		"2 2 2 0 1: ~P(C) R P(C)":                 false,
		"2 3 3 0 1: P(x) P(y)":                    false,
		"2 0 0 0 1: ~P(F(F(abcdefg))) P(abcdefg)": true,
	})
}

// TestOrderOfLiterals: A's without I, then B's without J. Those that become the same stay twice.
func TestOrderOfLiterals(t *testing.T) {
	areSteps(t, "A P B; C ~P D; A ~P; P A; ~P(x) Q(x) Q(y); P(C) Q(C)", map[string]bool{
		"2 0 1 1 1: A B C D":        true,
		"2 1 0 1 1: C D A B":        true,
		"2 0 1 1 1: C D A B":        false,
		"2 0 1 1 1: A C B D":        false,
		"2 0 1 1 1: B A C D":        false,
		"2 0 1 1 1: A B D C":        false,
		"2 0 1 1 1: A B C":          false,
		"2 0 1 1 1: A B C D D":      false,
		"2 0 2 1 1: A B A":          true,
		"2 0 2 1 1: A B":            false,
		"2 0 2 1 1: B A":            false,
		"2 3 2 0 1: A A":            true,
		"2 2 3 1 0: A A":            true,
		"2 3 2 0 1: A":              false,
		"2 5 4 0 0: Q(C) Q(C) Q(x)": true,
		"2 4 5 0 0: Q(C) Q(x) Q(C)": true,
		"2 4 5 0 0: Q(C) Q(x)":      false,
		"2 4 5 0 0: Q(x) Q(C) Q(C)": false,
		"2 4 5 0 0: Q(C) Q(C) Q(C)": false,
	})
}

func TestJoinedLiterals(t *testing.T) {
	areSteps(t, "P(x) Q(x) P(C); ~P(x) ~P(F(y)) R(x,y); P(x) ~P(y); P(x) P(F(x)); P(x,F(x)) P(y,y); P P(x) R; P(x) P(y) P(z); R R; ~R R R ~R; P(C) P(D)", map[string]bool{
		"3 0 0 2: P(C) Q(C)":          true,
		"3 0 2 0: Q(C) P(C)":          true,
		"3 0 0 2: Q(C) P(C)":          false,
		"3 0 2 0: P(C) Q(C)":          false,
		"3 0 0 2: P(x) Q(x)":          false,
		"3 0 0 2: P(C) Q(C) P(C)":     false,
		"3 0 0 1: P(x) P(C)":          false, // other names
		"3 1 0 1: ~P(F(x)) R(F(x),x)": true,  // both with Not
		"3 1 1 0: ~P(F(y)) R(F(y),y)": true,
		"3 1 0 1: ~P(F(x)) R(F(x),y)": false,
		"3 1 0 1: P(F(x)) R(F(x),x)":  false,
		"3 2 0 1: P(x)":               false, // one with Not
		"3 2 1 0: ~P(x)":              false,
		"3 3 0 1: P(F(x))":            false, // here the x of both is one
		"3 4 0 1: P(x,F(x))":          false,
		"3 5 0 1: P R":                false, // another number of words
		"3 6 0 1: P(x) P(y)":          true,
		"3 6 1 2: P(x) P(y)":          true,
		"3 6 2 0: P(x) P(y)":          true,
		"3 6 0 1: P(x) P(x)":          false,
		"3 6 0 1: P(x)":               false,
		"3 6 0 0: P(x) P(y) P(z)":     false, // one literal is no two
		"3 6 0 0: P(x) P(y)":          false,
		"3 6 1 1: P(x) P(z)":          false,
		"3 7 0 1: R":                  true,
		"3 7 1 0: R":                  true,
		"3 7 0 1: R R":                false,
		"3 7 0 1:":                    false,
		"3 7 0 0: R":                  false,
		"3 7 1 1: R":                  false,
		"3 8 0 3: ~R R R":             true,
		"3 8 3 0: R R ~R":             true,
		"3 8 3 0: ~R R R":             false,
		"3 8 1 2: ~R R ~R":            true,
		"3 8 0 1: ~R R ~R":            false,
		"3 9 0 1: P(C)":               false,
		"3 9 0 0: P(C)":               false,
	})
}

// marred is a clause that is nearly c.
func marred(chance *rand.Rand, c []api.Literal) []api.Literal {
	c = values{}.inClause(c)
	at := chance.Intn(len(c) + 1)
	if at == len(c) {
		return append(c, literal("R"))
	}
	switch chance.Intn(6) {
	case 0:
		return without(c, at)
	case 1:
		c[0], c[at] = c[at], c[0]
	case 2:
		c[at] = opposite(c[at])
	case 3:
		return slices.Insert(c, at, c[0])
	case 4:
		v := variablesIn(c)
		if len(v) > 0 {
			return values{v[0]: word(v[len(v)-1])}.inClause(c)
		}
	default:
		v := variablesIn(c)
		if len(v) > 0 {
			return values{v[0]: word("C")}.inClause(c)
		}
	}
	return c
}

// someStep names what is there, mostly, and has a clause that comes of it, if one does.
func someStep(chance *rand.Rand, l [][]api.Literal, steps []api.Infer) api.Infer {
	s := api.Infer{Kind: 1, A: chance.Intn(len(l))}
	if n := len(steps); n > 0 && chance.Intn(3) > 0 {
		s = api.Infer{Kind: 2 + chance.Intn(2), A: chance.Intn(n)}
		s.I, s.J = chance.Intn(len(steps[s.A].Clause)+1), chance.Intn(len(steps[s.A].Clause)+1)
		if s.Kind == 2 {
			s.B = chance.Intn(n)
			s.J = chance.Intn(len(steps[s.B].Clause) + 1)
		}
	}
	return s
}

// stepCode is a second way to tell the fault of a step.
func stepCode(l [][]api.Literal, steps []api.Infer, s api.Infer) int {
	if s.Kind > 1 && (s.I >= len(steps[s.A].Clause) || s.Kind == 3 && s.J >= len(steps[s.A].Clause) || s.Kind == 2 && s.J >= len(steps[s.B].Clause)) {
		return api.ErrRange
	}
	if c, is := comes(l, steps, s); !is || !isLike(c, s.Clause) {
		return api.ErrFalse
	}
	return api.OK
}

// TestStepsAgainstASecondWay: true steps and those that are nearly so, held against substitutions that are put into clauses one by one.
func TestStepsAgainstASecondWay(t *testing.T) {
	chance := rand.New(rand.NewSource(1))
	var seen [4][api.ErrMuch + 1]int
	for range 6000 {
		l, steps := someList(chance, 1+chance.Intn(4), 4, 2, "x", "y", "z", "C"), []api.Infer(nil)
		for range 8 {
			s := someStep(chance, l, steps)
			if stepCode(l, steps, s) != api.ErrRange {
				s.Clause, _ = comes(l, steps, s)
			}
			s.Clause = renamed(s.Clause, func(at int, _ string) string { return strings.Repeat("n", at+1) })
			if chance.Intn(6) == 0 {
				s.Clause = marred(chance, s.Clause)
			}
			if resolve.Check([][]api.Literal{s.Clause}) != (api.Fault{}) {
				break
			}
			code := stepCode(l, steps, s)
			seen[s.Kind][code]++
			want := fault(code, len(steps))
			steps = append(steps, s)
			if code == api.OK && len(s.Clause) > 0 {
				want = fault(api.ErrNone, len(steps))
			} else if code == api.OK {
				want = api.Fault{}
			}
			if got := resolve.Replay(l, steps); got != want {
				t.Fatalf("%s: %v: %v, want %v", toldList(l), steps, got, want)
			}
			if code != api.OK {
				steps = steps[:len(steps)-1]
			}
		}
	}
	for kind := 1; kind <= 3; kind++ {
		if seen[kind][api.OK] < 300 || seen[kind][api.ErrFalse] < 300 || kind > 1 && seen[kind][api.ErrRange] < 300 {
			t.Errorf("kind %d: %v", kind, seen[kind])
		}
	}
}
