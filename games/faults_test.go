package games_test

import (
	"math/rand"
	"slices"
	"strconv"
	"strings"
	"testing"

	"sequent/api"
	"sequent/games"
	"sequent/meaning"
)

// refused asks both calls where something is wrong.
func refused(t *testing.T, what string, a, b api.Structure, n int, want api.Fault) {
	t.Helper()
	is, f := games.Wins(a, b, n)
	sameFault(t, "Wins: "+what, f, want)
	if is {
		t.Errorf("Wins: %s: true is answered beside a fault", what)
	}
	e, f := games.Tell(a, b, n)
	sameFault(t, "Tell: "+what, f, want)
	if !isZero(e) {
		t.Errorf("Tell: %s: an expression is answered beside a fault", what)
	}
}

// cube is a predicate of three places.
func cube(name string, n int) api.Pred {
	return api.Pred{Name: name, Arity: 3, Bits: make([]bool, n*n*n)}
}

// withFuns is s with functions.
func withFuns(s api.Structure, funs ...api.Fun) api.Structure {
	s.Funs = funs
	return s
}

func constant(name string) api.Fun { return api.Fun{Name: name, Table: []int{0}} }

// faulty is a structure with a fault that chapter 14's Check tells.
type faulty struct {
	what string
	s    api.Structure
	want api.Fault
}

func faultyStructures() []faulty {
	var eleven []api.Pred
	var funs []api.Fun
	for i := range 11 {
		name := string(rune('A' + i))
		eleven, funs = append(eleven, plain(name, true)), append(funs, constant(name))
	}
	small, far := api.Pred{Name: "P", Arity: -1}, api.Pred{Name: "P", Arity: 1<<63 - 1}
	return []faulty{
		{"zero structure", api.Structure{}, fault(api.ErrMany, 0)},
		{"below 0", things(-1), fault(api.ErrMany, 0)},
		{"nine things", things(9, class("P", 9)), fault(api.ErrMany, 0)},
		{"very many things", things(1<<63 - 1), fault(api.ErrMany, 0)},
		{"eleven predicates", things(2, eleven...), fault(api.ErrMany, 0)},
		{"eleven functions", withFuns(things(2), funs...), fault(api.ErrMany, 0)},
		{"no name", things(2, plain("", true)), fault(api.ErrName, 0)},
		{"a small name", things(2, plain("Q", true), plain("p", true)), fault(api.ErrName, 1)},
		{"a long name", things(2, plain("Abcdefghi", true)), fault(api.ErrName, 0)},
		{"a name twice", things(2, plain("Q", true), plain("P", true), plain("Q", true)), fault(api.ErrName, 2)},
		{"fewer places than none", things(2, small), fault(api.ErrRange, 0)},
		{"four places", things(2, plain("Q", true), api.Pred{Name: "P", Arity: 4, Bits: make([]bool, 16)}), fault(api.ErrRange, 1)},
		{"very many places", things(2, far), fault(api.ErrRange, 0)},
		{"no bits", things(2, api.Pred{Name: "Q"}), fault(api.ErrSize, 0)},
		{"too few bits", things(3, relation("R", 3, func(u, v int) bool { return true }), class("P", 2)), fault(api.ErrSize, 1)},
		{"too many bits", things(2, class("P", 3)), fault(api.ErrSize, 0)},
		{"too few bits behind a function", withFuns(things(3, class("P", 2)), constant("C")), fault(api.ErrSize, 1)},
		{"a small name of a function", withFuns(things(2), constant("c")), fault(api.ErrName, 0)},
		{"four places of a function", withFuns(things(2), constant("C"), api.Fun{Name: "F", Arity: 4, Table: make([]int, 16)}), fault(api.ErrRange, 1)},
		{"no values", withFuns(things(2), api.Fun{Name: "F", Arity: 1}), fault(api.ErrSize, 0)},
		{"a value that is no thing", withFuns(things(2), constant("C"), api.Fun{Name: "F", Arity: 1, Table: []int{0, 2}}), fault(api.ErrForm, 1)},
	}
}

func TestFaultsOfStructures(t *testing.T) {
	l := faultyStructures()
	for i, c := range l {
		sameFault(t, c.what, meaning.Check(c.s), c.want)
		for _, n := range []int{0, 2, 9} {
			for _, right := range []api.Structure{things(2), row(3), withFuns(row(2), constant("C")), things(2, cube("T", 2))} {
				refused(t, c.what+" in the first", c.s, right, n, c.want)
				refused(t, c.what+" in the second", right, c.s, n, c.want)
			}
			refused(t, c.what+" in both", c.s, c.s, n, c.want)
			other := l[(i+7)%len(l)]
			refused(t, c.what+" ahead of "+other.what, c.s, other.s, n, c.want)
		}
	}
}

func TestFaultsOfQuestions(t *testing.T) {
	q, p, r := plain("Q", true), class("P", 2, 1), row(2).Preds[0]
	two, funs := things(2, q, p), withFuns(things(2, q, p), constant("C"))
	first, second, third := things(2, cube("T", 2)), things(2, q, cube("T", 2)), things(2, q, p, cube("T", 2), cube("S", 2))
	both := withFuns(second, constant("C"), api.Fun{Name: "F", Arity: 3, Table: make([]int, 8)})
	for _, c := range []struct {
		what string
		a, b api.Structure
		n    int
		want api.Fault
	}{
		{"functions in the first", funs, two, 2, fault(api.ErrKind, 0)},
		{"functions in the second", two, funs, 2, fault(api.ErrKind, 0)},
		{"functions in both", funs, funs, 2, fault(api.ErrKind, 0)},
		{"three places, first, in the first", first, two, 2, fault(api.ErrKind, 0)},
		{"three places, first, in the second", two, first, 2, fault(api.ErrKind, 0)},
		{"three places, first, in both", first, first, 2, fault(api.ErrKind, 0)},
		{"three places, second, in the first", second, two, 2, fault(api.ErrKind, 1)},
		{"three places, second, in the second", two, second, 2, fault(api.ErrKind, 1)},
		{"three places, second, in both", second, second, 2, fault(api.ErrKind, 1)},
		{"three places, twice, in the first", third, two, 2, fault(api.ErrKind, 2)},
		{"three places, twice, in the second", two, third, 2, fault(api.ErrKind, 2)},
		{"three places, twice, in both", third, third, 2, fault(api.ErrKind, 2)},
		{"three places at different numbers", second, third, 2, fault(api.ErrKind, 1)},
		{"the first one's number is told", third, second, 2, fault(api.ErrKind, 2)},
		{"functions ahead of three places", both, two, 2, fault(api.ErrKind, 0)},
		{"functions ahead of three places, in the second", two, both, 2, fault(api.ErrKind, 0)},
		{"three places in the first ahead of functions in the second", second, both, 2, fault(api.ErrKind, 1)},
		{"functions in the first ahead of three places in the second", both, third, 2, fault(api.ErrKind, 0)},
		{"three places in the second ahead of how many they are", two, third, 2, fault(api.ErrKind, 2)},
		{"three places in the second ahead of a name", things(2, p, q), second, 2, fault(api.ErrKind, 1)},
		{"functions in the second ahead of rounds", two, funs, 5, fault(api.ErrKind, 0)},

		{"none and one", things(2), things(2, q), 2, fault(api.ErrSize, 0)},
		{"one and none", things(2, q), things(2), 2, fault(api.ErrSize, 0)},
		{"one more", two, things(2, q, p, r), 2, fault(api.ErrSize, 0)},
		{"one less", things(2, q, p, r), two, 2, fault(api.ErrSize, 0)},
		{"how many ahead of names", things(2, q, p), things(2, p), 2, fault(api.ErrSize, 0)},
		{"how many ahead of rounds", two, things(2, q), -1, fault(api.ErrSize, 0)},
		{"another name, first", two, things(2, plain("K", true), p), 2, fault(api.ErrSize, 0)},
		{"another name, second", two, things(2, q, class("K", 2, 1)), 2, fault(api.ErrSize, 1)},
		{"another name, third", things(2, q, p, r), things(2, q, p, relation("K", 2, func(u, v int) bool { return u < v })), 2, fault(api.ErrSize, 2)},
		{"a longer name", things(2, q, p), things(2, q, class("Pp", 2, 1)), 2, fault(api.ErrSize, 1)},
		{"a shorter name", things(2, q, class("Pp", 2, 1)), things(2, q, p), 2, fault(api.ErrSize, 1)},
		{"another order", things(2, q, p, r), things(2, q, r, p), 2, fault(api.ErrSize, 1)},
		{"more places, first", things(2, q), things(2, class("Q", 2)), 2, fault(api.ErrSize, 0)},
		{"less places, second", things(2, p, class("Q", 2)), things(2, p, q), 2, fault(api.ErrSize, 1)},
		{"other places of one thing, with as many bits", things(1, q, class("P", 1)), things(1, q, relation("P", 1, func(u, v int) bool { return false })), 2, fault(api.ErrSize, 1)},
		{"places ahead of the next name", things(2, q, p, r), things(2, q, plain("P", true), class("K", 2)), 2, fault(api.ErrSize, 1)},
		{"names ahead of rounds", two, things(2, q, class("K", 2, 1)), 5, fault(api.ErrSize, 1)},
		{"places ahead of rounds", things(2, q), things(2, class("Q", 2)), -1, fault(api.ErrSize, 0)},
	} {
		refused(t, c.what, c.a, c.b, c.n, c.want)
	}
}

func TestRoundsThatAreNone(t *testing.T) {
	for _, n := range []int{-1 << 63, -1 << 32, -5, -2, -1, 5, 6, 7, 1 << 32, 1<<32 + 1, 1 << 62, 1<<63 - 1} {
		refused(t, strconv.Itoa(n), row(3), row(3), n, fault(api.ErrRange, 0))
		refused(t, strconv.Itoa(n), row(1), row(8), n, fault(api.ErrRange, 0))
		refused(t, strconv.Itoa(n), things(1, plain("Q", true)), things(1, plain("Q", false)), n, fault(api.ErrRange, 0))
	}
	for n := range 5 {
		asked(t, row(3), row(3), n, true)
	}
}

// TestPlacesOfOneThing: with one thing all predicates have as many bits.
func TestPlacesOfOneThing(t *testing.T) {
	for i := range 3 {
		for j := range 3 {
			a, b := things(1, api.Pred{Name: "Q", Arity: i, Bits: []bool{true}}), things(1, api.Pred{Name: "Q", Arity: j, Bits: []bool{true}})
			if i == j {
				asked(t, a, b, 3, true)
			} else {
				refused(t, "other places", a, b, 3, fault(api.ErrSize, 0))
			}
		}
	}
}

// faultAgain writes down what the chapter asks for, word by word.
func faultAgain(a, b api.Structure, n int) api.Fault {
	l := []api.Fault{meaning.Check(a), meaning.Check(b)}
	if l[0] == (api.Fault{}) && l[1] == (api.Fault{}) {
		for _, s := range []api.Structure{a, b} {
			if len(s.Funs) != 0 {
				l = append(l, fault(api.ErrKind, 0))
			}
			for at, p := range s.Preds {
				if p.Arity == 3 {
					l = append(l, fault(api.ErrKind, at))
				}
			}
		}
		if len(a.Preds) != len(b.Preds) {
			l = append(l, fault(api.ErrSize, 0))
		}
		for at := range min(len(a.Preds), len(b.Preds)) {
			if strings.Compare(a.Preds[at].Name, b.Preds[at].Name) != 0 || a.Preds[at].Arity != b.Preds[at].Arity {
				l = append(l, fault(api.ErrSize, at))
			}
		}
		if n != 0 && n != 1 && n != 2 && n != 3 && n != 4 {
			l = append(l, fault(api.ErrRange, 0))
		}
	}
	for _, f := range l {
		if f != (api.Fault{}) {
			return f
		}
	}
	return api.Fault{}
}

// mar makes something else of s by chance.
func mar(chance *rand.Rand, s *api.Structure) {
	at := chance.Intn(len(s.Preds))
	p := &s.Preds[at]
	switch chance.Intn(9) {
	case 0:
		s.N += chance.Intn(3) - 1
	case 1:
		p.Name = [...]string{"", "K", "P", "q", "Abcdefghi"}[chance.Intn(5)]
	case 2:
		p.Arity = chance.Intn(6) - 1
	case 3:
		p.Bits = p.Bits[:len(p.Bits)/2]
	case 4:
		s.Funs = append(s.Funs, constant([...]string{"C", "c", "P"}[chance.Intn(3)]))
	case 5:
		s.Preds = append(s.Preds[:at:at], s.Preds[at+1:]...)
		s.Preds = append(s.Preds, plain("A", true))
	case 6:
		s.Preds = append(s.Preds, cube([...]string{"T", "S"}[chance.Intn(2)], s.N))
	case 7:
		s.Preds = slices.Insert(s.Preds, at, cube("T", s.N))
	case 8:
		s.Preds[0], s.Preds[at] = s.Preds[at], s.Preds[0]
	}
}

type question struct {
	a, b api.Structure
	n    int
}

func someQuestion(chance *rand.Rand) question {
	q := question{n: chance.Intn(4)}
	oneIn := 2 + chance.Intn(4)
	q.a = meanings(chance, 1+chance.Intn(3), oneIn, vocabulary()...)
	q.b = meanings(chance, 1+chance.Intn(3), oneIn, vocabulary()...)
	if chance.Intn(3) == 0 {
		q.b = renumbered(q.a, chance.Perm(q.a.N))
	}
	q.b.Preds[0].Bits[0] = q.a.Preds[0].Bits[0] != (chance.Intn(20) == 0)
	switch chance.Intn(6) {
	case 0:
		q.n = chance.Intn(12) - 4
	case 1:
		mar(chance, &q.a)
	case 2, 3:
		mar(chance, &q.b)
	case 4:
		mar(chance, &q.a)
		mar(chance, &q.b)
	}
	return q
}

func TestMarredQuestions(t *testing.T) {
	chance := rand.New(rand.NewSource(2))
	seen := map[api.Fault]int{}
	for range 20000 {
		q := someQuestion(chance)
		want := faultAgain(q.a, q.b, q.n)
		seen[want]++
		if want != (api.Fault{}) {
			refused(t, "by chance", q.a, q.b, q.n, want)
		} else if seen[want]%10 == 0 {
			asked(t, q.a, q.b, q.n, saysTheSame(q.a, q.b, q.n))
		}
	}
	if seen[api.Fault{}] < 2000 || len(seen) < 15 || min(seen[fault(api.ErrKind, 0)], seen[fault(api.ErrKind, 2)], seen[fault(api.ErrSize, 0)], seen[fault(api.ErrSize, 2)], seen[fault(api.ErrRange, 0)]) < 50 {
		t.Errorf("few faults came: %v", seen)
	}
}
