package games_test

import (
	"math/rand"
	"testing"

	"sequent/api"
)

// loose have as many things, and predicates of two places, as there can be, which hold as is tells.
func loose(is func(number, u, v int) bool) api.Structure {
	s := things(8)
	for number := range 10 {
		s.Preds = append(s.Preds, relation(string(rune('A'+number)), 8, func(u, v int) bool { return is(number, u, v) }))
	}
	return s
}

// TestMostThings: with four rounds every call ends in good time, be the things alike or not.
func TestMostThings(t *testing.T) {
	all := loose(func(_, u, v int) bool { return true })
	none := loose(func(_, u, v int) bool { return false })
	rows := loose(func(number, u, v int) bool { return (u < v) == (number%2 == 0) })
	steps := loose(func(number, u, v int) bool { return (u+number+1)%8 == v })
	asked(t, all, all, 4, true)
	asked(t, none, none, 4, true)
	asked(t, rows, rows, 4, true)
	asked(t, steps, steps, 4, true)
	for _, s := range []api.Structure{none, rows, steps} {
		asked(t, all, s, 4, false)
	}
	asked(t, none, rows, 4, false)
	asked(t, none, steps, 4, false)
	asked(t, rows, steps, 4, false)
}

// TestLastPlace: one bit of many is another one.
func TestLastPlace(t *testing.T) {
	for _, at := range [][2]int{{0, 0}, {7, 7}, {7, 0}, {3, 4}} {
		for _, number := range []int{0, 9} {
			empty := func(_, u, v int) bool { return false }
			one := func(k, u, v int) bool { return k == number && u == at[0] && v == at[1] }
			asked(t, loose(empty), loose(one), 4, false)
			asked(t, loose(one), loose(one), 4, true)
			asked(t, loose(one), loose(func(k, u, v int) bool { return one(k, 7-u, 7-v) }), 4, true)
			asked(t, loose(one), loose(func(k, u, v int) bool { return one(k, v, u) }), 4, true)
			asked(t, loose(one), loose(func(k, u, v int) bool { return one(9-k, u, v) }), 4, false)
		}
	}
}

// TestMostByChance: large structures that are told apart late.
func TestMostByChance(t *testing.T) {
	chance := rand.New(rand.NewSource(9))
	l := []api.Structure{rings(8), rings(7), rings(6), rings(4, 4), rings(5, 3), rings(6, 2), rings(3, 3), rings(4, 3), rings(2, 2, 2, 2), rings(2, 2, 2), row(8), row(7), row(6)}
	for _, a := range l {
		for range 2 {
			b := l[chance.Intn(len(l))]
			is := wins(t, a, b, 4)
			asked(t, a, renumbered(b, chance.Perm(b.N)), 4, is)
			if a.N > 6 || b.N > 6 {
				continue
			}
			if is != saysTheSame(a, b, 4) {
				t.Errorf("Wins(%v, %v, 4): %v", a, b, is)
			}
		}
	}
}

// TestTypesOfMostThings: held against what expressions say, for the largest structures.
func TestTypesOfMostThings(t *testing.T) {
	for _, c := range [][2]api.Structure{
		{rings(8), rings(7)},
		{rings(4, 4), rings(8)},
		{rings(2, 2, 2, 2), rings(2, 2, 2)},
		{row(8), row(7)},
		{rings(3, 5), rings(5, 3)},
	} {
		for n := range 5 {
			asked(t, c[0], c[1], n, saysTheSame(c[0], c[1], n))
		}
	}
}
