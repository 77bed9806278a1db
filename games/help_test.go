package games_test

import (
	"fmt"
	"math/rand"
	"slices"
	"testing"

	"sequent/api"
	"sequent/first"
	"sequent/games"
	"sequent/meaning"
)

func fault(code, at int) api.Fault { return api.Fault{Code: code, At: at} }

func sameFault(t *testing.T, what string, got, want api.Fault) {
	t.Helper()
	if got != want {
		t.Errorf("%s: fault %v, want %v", what, got, want)
	}
}

func isZero(e api.Expr) bool {
	return e.Kind == 0 && e.Name == "" && len(e.Words) == 0 && len(e.Kids) == 0
}

func power(n, k int) int {
	p := 1
	for range k {
		p *= n
	}
	return p
}

func things(n int, preds ...api.Pred) api.Structure { return api.Structure{N: n, Preds: preds} }

// plain is a predicate of no place.
func plain(name string, is bool) api.Pred { return api.Pred{Name: name, Bits: []bool{is}} }

// class is a predicate of one place, which holds of these of n things.
func class(name string, n int, of ...int) api.Pred {
	p := api.Pred{Name: name, Arity: 1, Bits: make([]bool, n)}
	for _, u := range of {
		p.Bits[u] = true
	}
	return p
}

// relation is a predicate of two places.
func relation(name string, n int, is func(u, v int) bool) api.Pred {
	p := api.Pred{Name: name, Arity: 2, Bits: make([]bool, n*n)}
	for u := range n {
		for v := range n {
			p.Bits[u+n*v] = is(u, v)
		}
	}
	return p
}

// row has n things, of which R tells which is less.
func row(n int) api.Structure {
	return things(n, relation("R", n, func(u, v int) bool { return u < v }))
}

// rings have rings of things beside each other, of which R tells which are neighbours.
func rings(lengths ...int) api.Structure {
	var ring, at []int
	for i, length := range lengths {
		for k := range length {
			ring, at = append(ring, i), append(at, k)
		}
	}
	return things(len(ring), relation("R", len(ring), func(u, v int) bool {
		length := lengths[ring[u]]
		return ring[u] == ring[v] && ((at[u]+1)%length == at[v] || (at[v]+1)%length == at[u])
	}))
}

// renumbered has the thing order[u] for each u.
func renumbered(s api.Structure, order []int) api.Structure {
	out := api.Structure{N: s.N}
	for _, p := range s.Preds {
		bits := make([]bool, len(p.Bits))
		for at, is := range p.Bits {
			to, rest, step := 0, at, 1
			for range p.Arity {
				to += order[rest%s.N] * step
				rest, step = rest/s.N, step*s.N
			}
			bits[to] = is
		}
		out.Preds = append(out.Preds, api.Pred{Name: p.Name, Arity: p.Arity, Bits: bits})
	}
	return out
}

// symbol is a predicate's name, and of how many places it is.
type symbol struct {
	name   string
	places int
}

// meanings are by chance: a predicate holds of one in so many.
func meanings(chance *rand.Rand, n, oneIn int, symbols ...symbol) api.Structure {
	s := api.Structure{N: n}
	for _, x := range symbols {
		p := api.Pred{Name: x.name, Arity: x.places, Bits: make([]bool, power(n, x.places))}
		for i := range p.Bits {
			p.Bits[i] = chance.Intn(oneIn) == 0
		}
		s.Preds = append(s.Preds, p)
	}
	return s
}

func vocabulary() []symbol { return []symbol{{"Q", 0}, {"P", 1}, {"R", 2}} }

// allStructures are those of n things, with all meanings of a predicate of so many places.
func allStructures(n, places int) []api.Structure {
	var l []api.Structure
	many := power(n, places)
	for number := range power(2, many) {
		p := api.Pred{Name: "R", Arity: places}
		for i := range many {
			p.Bits = append(p.Bits, number>>i&1 == 1)
		}
		l = append(l, things(n, p))
	}
	return l
}

// isIn tells whether p holds of the first of these things, as many as it has places.
func isIn(s api.Structure, p api.Pred, u, v int) bool { return p.Bits[[]int{0, u, u + s.N*v}[p.Arity]] }

// fits looks at what was chosen as the chapter says it.
func fits(a, b api.Structure, inA, inB []int) bool {
	for number, p := range a.Preds {
		if p.Arity == 0 && p.Bits[0] != b.Preds[number].Bits[0] {
			return false
		}
	}
	for i := range inA {
		for j := range inA {
			if (inA[i] == inA[j]) != (inB[i] == inB[j]) {
				return false
			}
			for number, p := range a.Preds {
				if isIn(a, p, inA[i], inA[j]) != isIn(b, b.Preds[number], inB[i], inB[j]) {
					return false
				}
			}
		}
	}
	return true
}

// played tries all choices in all rounds, and looks at the end alone.
func played(a, b api.Structure, n int, inA, inB []int) bool {
	if n == 0 {
		return fits(a, b, inA, inB)
	}
	goesOn := func(u, v int) bool {
		return played(a, b, n-1, append(slices.Clone(inA), u), append(slices.Clone(inB), v))
	}
	for u := range a.N {
		if !slices.ContainsFunc(numbers(b.N), func(v int) bool { return goesOn(u, v) }) {
			return false
		}
	}
	for v := range b.N {
		if !slices.ContainsFunc(numbers(a.N), func(u int) bool { return goesOn(u, v) }) {
			return false
		}
	}
	return true
}

func numbers(n int) []int {
	l := make([]int, n)
	for i := range l {
		l[i] = i
	}
	return l
}

// types is a third reckoning, without a game: it has numbers for what expressions say of things that were chosen. With no quantifiers that is what is true of these; with n in one another it is what those with n - 1 say of them and one thing more.
type types map[string]int

func (l types) number(told string) int {
	if _, known := l[told]; !known {
		l[told] = len(l)
	}
	return l[told]
}

func (l types) of(s api.Structure, n int, chosen ...int) int {
	if n == 0 {
		return l.number(factsOf(s, chosen))
	}
	var behind []int
	for u := range s.N {
		behind = append(behind, l.of(s, n-1, append(slices.Clone(chosen), u)...))
	}
	slices.Sort(behind)
	return l.number(fmt.Sprint(n, slices.Compact(behind)))
}

func factsOf(s api.Structure, chosen []int) string {
	told := ""
	for _, p := range s.Preds {
		if p.Arity == 0 {
			told += fmt.Sprint(p.Bits[0])
		}
	}
	for _, u := range chosen {
		for _, v := range chosen {
			told += fmt.Sprint(" ", u == v)
			for _, p := range s.Preds {
				told += fmt.Sprint(isIn(s, p, u, v))
			}
		}
	}
	return told
}

// saysTheSame: are a and b of one type?
func saysTheSame(a, b api.Structure, n int) bool {
	l := types{}
	return l.of(a, n) == l.of(b, n)
}

// wins asks Wins where nothing is wrong.
func wins(t *testing.T, a, b api.Structure, n int) bool {
	t.Helper()
	is, f := games.Wins(a, b, n)
	if f != (api.Fault{}) {
		t.Fatalf("Wins(%v, %v, %d): fault %v", a, b, n, f)
	}
	return is
}

// exprs are e and all that are in it.
func exprs(e api.Expr) []api.Expr {
	l := []api.Expr{e}
	for _, k := range e.Kids {
		l = append(l, exprs(k)...)
	}
	return l
}

func isQuantifier(e api.Expr) bool { return e.Kind == api.EAll || e.Kind == api.ESome }

// deepest is how many quantifiers stand in one another.
func deepest(e api.Expr) int {
	n := 0
	for _, k := range e.Kids {
		n = max(n, deepest(k))
	}
	if isQuantifier(e) {
		n++
	}
	return n
}

// freeIn are the variables that are free: what the Kids have, without what is bound.
func freeIn(e api.Expr) map[string]bool {
	free := map[string]bool{}
	for _, w := range e.Words {
		free[w.Name] = true
	}
	for _, k := range e.Kids {
		for name := range freeIn(k) {
			free[name] = true
		}
	}
	if isQuantifier(e) {
		delete(free, e.Name)
	}
	return free
}

// given is what a variable is, ahead of what those around it are.
type given struct {
	name  string
	value int
	outer *given
}

func (g *given) of(name string) int {
	for g.name != name {
		g = g.outer
	}
	return g.value
}

// isTrue reckons as chapter 14's Value does, of whatever size e is.
func isTrue(s api.Structure, e api.Expr, g *given) bool {
	switch e.Kind {
	case api.EPred:
		p := s.Preds[slices.IndexFunc(s.Preds, func(p api.Pred) bool { return p.Name == e.Name })]
		at := 0
		for _, w := range slices.Backward(e.Words) {
			at = at*s.N + g.of(w.Name)
		}
		return p.Bits[at]
	case api.ESame:
		return g.of(e.Words[0].Name) == g.of(e.Words[1].Name)
	case api.ETrue, api.EFalse:
		return e.Kind == api.ETrue
	case api.ENot:
		return !isTrue(s, e.Kids[0], g)
	case api.EAll, api.ESome:
		for u := range s.N {
			if is := isTrue(s, e.Kids[0], &given{e.Name, u, g}); is == (e.Kind == api.ESome) {
				return is
			}
		}
		return e.Kind == api.EAll
	}
	left, right := isTrue(s, e.Kids[0], g), isTrue(s, e.Kids[1], g)
	switch e.Kind {
	case api.EAnd:
		return left && right
	case api.EOr:
		return left || right
	}
	return !left || right
}

// meansSomething: has e no words but variables, and no predicates but those of s?
func meansSomething(s api.Structure, e api.Expr) bool {
	for _, x := range exprs(e) {
		for _, w := range x.Words {
			if w.Name == "" || w.Name[0] < 'a' || w.Name[0] > 'z' || len(w.Args) > 0 {
				return false
			}
		}
		is := func(p api.Pred) bool { return p.Name == x.Name && p.Arity == len(x.Words) }
		if x.Kind == api.EPred && !slices.ContainsFunc(s.Preds, is) {
			return false
		}
	}
	return true
}

// told asks Tell, where the one who answers can't win, and looks at what it says.
func told(t *testing.T, a, b api.Structure, n int) api.Expr {
	t.Helper()
	e, f := games.Tell(a, b, n)
	if f != (api.Fault{}) {
		t.Fatalf("Tell(%v, %v, %d): fault %v", a, b, n, f)
	}
	if wrong := wrongWith(a, b, n, e); wrong != "" {
		t.Fatalf("Tell(%v, %v, %d): %v: %s", a, b, n, e, wrong)
	}
	return e
}

func wrongWith(a, b api.Structure, n int, e api.Expr) string {
	f := first.Check(e)
	switch {
	case f != (api.Fault{}) && f != fault(api.ErrMany, 0):
		return fmt.Sprintf("Check says %v", f)
	case !meansSomething(a, e):
		return "it has other names"
	case len(freeIn(e)) > 0:
		return "it has free variables"
	case deepest(e) > n:
		return "it has too many quantifiers in one another"
	case !isTrue(a, e, nil):
		return "it is not true in the first one"
	case isTrue(b, e, nil):
		return "it is not false in the second one"
	case f == fault(api.ErrMany, 0):
		return ""
	}
	inA, faultOfA := meaning.Value(a, e, nil, nil)
	inB, faultOfB := meaning.Value(b, e, nil, nil)
	if !inA || inB || faultOfA != (api.Fault{}) || faultOfB != (api.Fault{}) {
		return fmt.Sprintf("Value says %v %v, %v %v", inA, faultOfA, inB, faultOfB)
	}
	return ""
}

// notTold asks Tell where the one who answers wins.
func notTold(t *testing.T, a, b api.Structure, n int) {
	t.Helper()
	e, f := games.Tell(a, b, n)
	if f != fault(api.ErrNone, 0) || !isZero(e) {
		t.Fatalf("Tell(%v, %v, %d): %v, fault %v", a, b, n, e, f)
	}
}

// asked asks both calls, in both directions, and looks at whether they say that the one who answers can win just if it is so.
func asked(t *testing.T, a, b api.Structure, n int, is bool) {
	t.Helper()
	for range 2 {
		if got := wins(t, a, b, n); got != is {
			t.Fatalf("Wins(%v, %v, %d): %v", a, b, n, got)
		}
		if is {
			notTold(t, a, b, n)
		} else {
			told(t, a, b, n)
		}
		a, b = b, a
	}
}

// TestHelpers: the reckonings say the same, and what is wrong with an expression is found.
func TestHelpers(t *testing.T) {
	chance := rand.New(rand.NewSource(1))
	var many [2]int
	for range 600 {
		n := chance.Intn(4)
		a, b := meanings(chance, 1+chance.Intn(3), 2+chance.Intn(3), vocabulary()...), meanings(chance, 1+chance.Intn(3), 2+chance.Intn(3), vocabulary()...)
		if chance.Intn(2) == 0 {
			b = renumbered(a, chance.Perm(a.N))
			b.Preds[2].Bits[0] = chance.Intn(2) == 0
		}
		is := played(a, b, n, nil, nil)
		if is != saysTheSame(a, b, n) {
			t.Fatalf("%v, %v, %d: %v by what is played", a, b, n, is)
		}
		if is {
			many[1]++
		} else {
			many[0]++
		}
	}
	if min(many[0], many[1]) < 100 {
		t.Errorf("they are the same so often: %v", many)
	}
	if s := rings(3, 2); !isIn(s, s.Preds[0], 0, 2) || !isIn(s, s.Preds[0], 4, 3) || isIn(s, s.Preds[0], 2, 3) || isIn(s, s.Preds[0], 1, 1) {
		t.Errorf("rings are %v", s)
	}
	for text, n := range map[string]int{"?a ?b R(a, b)": 2, "?a R(a, b)": 1, "?a P(a)": 1, "?a R(a, C)": 1, "?a !b (R(a, b) | 1)": 2, "!a ~R(a, a) | 0": 1, "!x !y x = y": 2} {
		e, _ := first.Parse(text)
		if wrong := wrongWith(row(2), row(1), n, e); (wrong == "") != (text == "?a ?b R(a, b)") {
			t.Errorf("%s: %q", text, wrong)
		}
		if wrong := wrongWith(row(2), row(1), 1, e); wrong == "" {
			t.Errorf("%s, with one quantifier: %q", text, wrong)
		}
	}
}
