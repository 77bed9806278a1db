package games_test

import (
	"math/rand"
	"slices"
	"testing"

	"sequent/api"
)

// TestNoRounds: predicates without places count then, and nothing else.
func TestNoRounds(t *testing.T) {
	for number := range 64 {
		q, p := plain("Q", number&1 == 1), plain("P", number&2 == 2)
		k, l := plain("Q", number&4 == 4), plain("P", number&8 == 8)
		a := things(1+number>>4, class("A", 1+number>>4), q, row(1 + number>>4).Preds[0], p)
		b := things(2, class("A", 2, 0, 1), k, relation("R", 2, func(u, v int) bool { return true }), l)
		asked(t, a, b, 0, q.Bits[0] == k.Bits[0] && p.Bits[0] == l.Bits[0])
	}
	for i := 1; i <= 8; i++ {
		for j := 1; j <= 8; j++ {
			asked(t, row(i), row(j), 0, true)
		}
	}
}

// TestPredicatesWithoutPlaces: they count in all rounds.
func TestPredicatesWithoutPlaces(t *testing.T) {
	for n := range 5 {
		asked(t, things(3, plain("Q", true)), things(3, plain("Q", true)), n, true)
		asked(t, things(3, plain("Q", false)), things(3, plain("Q", false)), n, true)
		asked(t, things(3, plain("Q", true)), things(3, plain("Q", false)), n, false)
		asked(t, things(3, plain("P", true), class("R", 3, 1), plain("Q", false)), things(3, plain("P", true), class("R", 3, 2), plain("Q", true)), n, false)
		asked(t, things(3, plain("P", true), class("R", 3, 1), plain("Q", true)), things(3, plain("P", true), class("R", 3, 2), plain("Q", true)), n, true)
	}
}

// TestThingsAlone: as many things, or more of both than there are rounds.
func TestThingsAlone(t *testing.T) {
	for i := 1; i <= 8; i++ {
		for j := 1; j <= 8; j++ {
			for n := range 5 {
				asked(t, things(i), things(j), n, i == j || min(i, j) >= n)
			}
		}
	}
}

// TestClasses: with a predicate of one place, as many things of which it holds, or more of both than there are rounds, and so for those of which it doesn't.
func TestClasses(t *testing.T) {
	isAs := func(i, j, n int) bool { return i == j || min(i, j) >= n }
	for a := 1; a <= 6; a++ {
		for b := 1; b <= 6; b++ {
			for i := range a + 1 {
				for j := range b + 1 {
					n := (a + b + i + j) % 5
					p, q := class("P", a, numbers(i)...), class("P", b, numbers(j)...)
					asked(t, things(a, p), things(b, q), n, isAs(i, j, n) && isAs(a-i, b-j, n))
				}
			}
		}
	}
}

// TestWithItself: a predicate of two places that holds of things with themselves, or does not, is as one of one place.
func TestWithItself(t *testing.T) {
	loops := func(n int, l ...int) api.Structure {
		return things(n, relation("R", n, func(u, v int) bool { return u == v && slices.Contains(l, u) }))
	}
	for _, c := range []struct {
		a, b api.Structure
		n    int
		is   bool
	}{
		{loops(3), loops(3), 4, true},
		{loops(3, 0), loops(3, 2), 4, true},
		{loops(3, 0), loops(3), 0, true},
		{loops(3, 0), loops(3), 1, false},
		{loops(3, 0, 1, 2), loops(3, 0, 1), 1, false},
		{loops(3, 0), loops(3, 0, 1), 1, true},
		{loops(3, 0), loops(3, 0, 1), 2, false},
		{loops(6, 0, 1), loops(6, 3, 4, 5), 2, true},
		{loops(6, 0, 1), loops(6, 3, 4, 5), 3, false},
		{loops(1, 0), loops(1), 1, false},
		{loops(1, 0), loops(8, 0, 1, 2, 3, 4, 5, 6, 7), 1, true},
	} {
		asked(t, c.a, c.b, c.n, c.is)
	}
}

// TestRelations: which of two things is less, and where R holds of them and where it doesn't, matters.
func TestRelations(t *testing.T) {
	to := func(n int, l ...[2]int) api.Structure {
		return things(n, relation("R", n, func(u, v int) bool { return slices.Contains(l, [2]int{u, v}) }))
	}
	for _, c := range []struct {
		a, b api.Structure
		n    int
		is   bool
	}{
		{to(2, [2]int{0, 1}), to(2, [2]int{1, 0}), 4, true},
		{to(2, [2]int{0, 1}), to(2, [2]int{0, 1}, [2]int{1, 0}), 1, true},
		{to(2, [2]int{0, 1}), to(2, [2]int{0, 1}, [2]int{1, 0}), 2, false},
		{to(2, [2]int{0, 1}), to(2), 1, true},
		{to(2, [2]int{0, 1}), to(2), 2, false},
		{to(3, [2]int{0, 1}, [2]int{0, 2}), to(3, [2]int{1, 0}, [2]int{2, 0}), 2, false},
		{to(3, [2]int{0, 1}, [2]int{0, 2}), to(3, [2]int{2, 1}, [2]int{2, 0}), 3, true},
		{to(3, [2]int{0, 1}, [2]int{1, 2}), to(3, [2]int{0, 1}, [2]int{0, 2}), 2, false},
		{to(4, [2]int{0, 1}, [2]int{2, 3}), to(4, [2]int{0, 1}, [2]int{2, 1}), 2, false},
		{rings(3, 3), rings(6), 2, true},
		{rings(3, 3), rings(6), 3, false},
		{rings(4, 4), rings(8), 2, true},
		{rings(4, 4), rings(8), 3, false},
		{rings(8), rings(7), 2, true},
		{rings(8), rings(7), 3, true},
		{rings(8), rings(7), 4, false},
		{rings(8), rings(5, 3), 2, true},
	} {
		if is := saysTheSame(c.a, c.b, c.n); is != c.is {
			t.Errorf("%v, %v, %d: the types say %v", c.a, c.b, c.n, is)
		}
		asked(t, c.a, c.b, c.n, c.is)
	}
}

// TestChosenAgain: there are more rounds than things.
func TestChosenAgain(t *testing.T) {
	for n := range 5 {
		for i := 1; i <= 3; i++ {
			asked(t, things(i), things(i), n, true)
			asked(t, row(i), row(i), n, true)
			asked(t, rings(i), renumbered(rings(i), numbers(i)), n, true)
		}
		asked(t, row(1), row(2), n, n < 2)
		asked(t, row(2), row(3), n, n < 2)
		asked(t, things(3), things(2), n, n < 3)
	}
}

// TestRows: two orders in a row are told apart, if they are not as long, and one of them is shorter than 2^n - 1.
func TestRows(t *testing.T) {
	for i := 1; i <= 8; i++ {
		for j := 1; j <= 8; j++ {
			for n := range 5 {
				asked(t, row(i), row(j), n, i == j || min(i, j) >= power(2, n)-1)
			}
		}
	}
}

// TestAllChoices: what Wins says is so by a search that tries all choices, for all small structures.
func TestAllChoices(t *testing.T) {
	var many [2]int
	for places := 1; places <= 2; places++ {
		all := slices.Concat(allStructures(1, places), allStructures(2, places))
		if places == 1 {
			all = append(all, allStructures(3, places)...)
		}
		for _, a := range all {
			for _, b := range all {
				for n := range 4 {
					is := played(a, b, n, nil, nil)
					asked(t, a, b, n, is)
					if is {
						many[1]++
					} else {
						many[0]++
					}
				}
			}
		}
	}
	if min(many[0], many[1]) < 300 {
		t.Errorf("they are the same so often: %v", many)
	}
}

// likeness is by chance a structure, and one that is not very different.
func likeness(chance *rand.Rand, n, oneIn int, symbols ...symbol) (a, b api.Structure) {
	a = meanings(chance, n, oneIn, symbols...)
	b = renumbered(a, chance.Perm(n))
	for range chance.Intn(3) {
		p := b.Preds[len(b.Preds)-1]
		at := chance.Intn(len(p.Bits))
		p.Bits[at] = !p.Bits[at]
	}
	return a, b
}

func TestAllChoicesByChance(t *testing.T) {
	chance := rand.New(rand.NewSource(3))
	many := map[int]int{}
	for range 1500 {
		n := 1 + chance.Intn(3)
		a, b := likeness(chance, 1+chance.Intn(4), 2+chance.Intn(3), vocabulary()...)
		if chance.Intn(2) == 0 {
			b = meanings(chance, 1+chance.Intn(4), 2+chance.Intn(3), vocabulary()...)
			b.Preds[0] = a.Preds[0]
		}
		is := played(a, b, n, nil, nil)
		asked(t, a, b, n, is)
		if is {
			many[n]++
		} else {
			many[-n]++
		}
	}
	for n := 1; n <= 3; n++ {
		if min(many[n], many[-n]) < 30 {
			t.Errorf("in %d rounds they are the same so often: %v", n, many)
		}
	}
}

// TestTypes: what Wins says is so by what expressions say, for large structures, too.
func TestTypes(t *testing.T) {
	chance := rand.New(rand.NewSource(4))
	many := map[int]int{}
	for range 250 {
		n := 1 + chance.Intn(4)
		a, b := likeness(chance, 3+chance.Intn(4), 2, symbol{"P", 1}, symbol{"R", 2})
		switch chance.Intn(3) {
		case 0:
			a, b = likeness(chance, 3+chance.Intn(4), 8, symbol{"R", 2})
		case 1:
			a, b = likeness(chance, 6, 1, symbol{"R", 2})
			a = renumbered(b, chance.Perm(6))
			a.Preds[0].Bits[chance.Intn(36)] = false
		}
		is := saysTheSame(a, b, n)
		asked(t, a, b, n, is)
		if is {
			many[n]++
		} else {
			many[-n]++
		}
	}
	for n := 1; n <= 4; n++ {
		if min(many[n], many[-n]) < 8 {
			t.Errorf("in %d rounds they are the same so often: %v", n, many)
		}
	}
}

// TestTheSame: a structure and itself, or the same one with its things numbered otherwise, are never told apart.
func TestTheSame(t *testing.T) {
	chance := rand.New(rand.NewSource(5))
	for range 150 {
		s := meanings(chance, 1+chance.Intn(8), 2+chance.Intn(3), vocabulary()...)
		n := chance.Intn(5)
		asked(t, s, s, n, true)
		asked(t, s, renumbered(s, chance.Perm(s.N)), n, true)
	}
}

// TestMoreRounds: who can win some rounds can win less of them.
func TestMoreRounds(t *testing.T) {
	chance := rand.New(rand.NewSource(6))
	lost := [6]int{}
	for range 300 {
		a, b := likeness(chance, 4+chance.Intn(5), 2+chance.Intn(5), symbol{"R", 2})
		n := 0
		for n < 5 && wins(t, a, b, n) {
			n++
		}
		lost[n]++
		for ; n < 5; n++ {
			if wins(t, a, b, n) {
				t.Fatalf("%v, %v: %d rounds are won, and less of them not", a, b, n)
			}
		}
	}
	if min(lost[1], lost[2], lost[3], lost[5]) < 5 {
		t.Errorf("lost in so many rounds: %v", lost)
	}
}

// TestManyPredicates: each of ten is looked at.
func TestManyPredicates(t *testing.T) {
	for number := range 10 {
		for places := range 3 {
			a, b := tenPredicates(3), tenPredicates(3)
			for _, s := range []api.Structure{a, b} {
				s.Preds[number] = api.Pred{Name: s.Preds[number].Name, Arity: places, Bits: make([]bool, power(3, places))}
			}
			asked(t, a, b, 3, true)
			b.Preds[number].Bits[power(3, places)/2] = true
			asked(t, a, b, places, false)
		}
	}
}

// tenPredicates hold of all or of nothing.
func tenPredicates(n int) api.Structure {
	s := things(n)
	for i := range 10 {
		p := api.Pred{Name: string(rune('Z' - i)), Arity: i % 3, Bits: make([]bool, power(n, i%3))}
		for at := range p.Bits {
			p.Bits[at] = i%2 == 0
		}
		s.Preds = append(s.Preds, p)
	}
	return s
}
