package kripke_test

import (
	"math"
	"slices"
	"strings"
	"testing"

	"sequent/api"
	"sequent/kripke"
)

// model has n worlds, each of which sees itself alone, and no names.
func model(n int) api.Model {
	m := api.Model{N: n, True: make([][]string, n)}
	for w := range n {
		m.Rel = append(m.Rel, [2]int{w, w})
	}
	return m
}

// with is a copy of m that is changed.
func with(m api.Model, change func(m *api.Model)) api.Model {
	m.Rel, m.True = slices.Clone(m.Rel), slices.Clone(m.True)
	change(&m)
	return m
}

// checked looks that Check tells just this, and Forces, too, if it is a fault.
func checked(t *testing.T, what string, m api.Model, want api.Fault) {
	t.Helper()
	if e := kripke.Check(m); e != want {
		t.Errorf("%s: %v, want %v", what, e, want)
	}
	if want != (api.Fault{}) {
		refusedForcing(t, what, m, name("p"), want)
		refusedForcing(t, what, m, api.Formula{}, want)
	}
}

func refusedForcing(t *testing.T, what string, m api.Model, f api.Formula, want api.Fault) {
	t.Helper()
	if l, e := kripke.Forces(m, f); e != want || len(l) != 0 {
		t.Errorf("%s: forces %v, %v, want %v", what, l, e, want)
	}
}

func TestCheckSizes(t *testing.T) {
	pairs := func(n int) func(m *api.Model) {
		return func(m *api.Model) { m.Rel = slices.Repeat([][2]int{{0, 0}}, n) }
	}
	entries := func(n int) func(m *api.Model) {
		return func(m *api.Model) { m.True = make([][]string, n) }
	}
	checked(t, "the zero model", api.Model{}, fault(api.ErrMany, 0))
	for _, n := range []int{1, 2, 39, 40} {
		checked(t, "a model", model(n), api.Fault{})
		checked(t, "no pairs", with(model(n), pairs(0)), api.Fault{})
		checked(t, "1000 pairs", with(model(n), pairs(1000)), api.Fault{})
		checked(t, "1001 pairs", with(model(n), pairs(1001)), api.Fault{})
		checked(t, "2000 pairs", with(model(n), pairs(2000)), api.Fault{})
		checked(t, "2001 pairs", with(model(n), pairs(2001)), fault(api.ErrMany, 0))
		checked(t, "an entry too many", with(model(n), entries(n+1)), fault(api.ErrSize, 0))
		checked(t, "an entry too few", with(model(n), entries(n-1)), fault(api.ErrSize, 0))
		checked(t, "no entries", with(model(n), entries(0)), fault(api.ErrSize, 0))
	}
	for _, n := range []int{0, 41, 42, 1000, -1, math.MaxInt, math.MinInt} {
		checked(t, "N", with(model(1), func(m *api.Model) { m.N = n }), fault(api.ErrMany, 0))
	}
	checked(t, "41 worlds", model(41), fault(api.ErrMany, 0))
}

func TestCheckPairs(t *testing.T) {
	for _, bad := range [][2]int{{-1, 0}, {0, -1}, {3, 0}, {0, 3}, {3, 3}, {-1, 3}, {math.MaxInt, 0}, {1, math.MinInt}} {
		m := model(3)
		for at := range len(m.Rel) + 1 {
			one := with(m, func(m *api.Model) { m.Rel = slices.Insert(m.Rel, at, bad) })
			checked(t, "a pair that is none", one, fault(api.ErrRange, at))
			two := with(one, func(m *api.Model) { m.Rel = append(m.Rel, bad) })
			checked(t, "two such pairs", two, fault(api.ErrRange, at))
		}
	}
	last := with(model(40), func(m *api.Model) { m.Rel = [][2]int{{39, 39}, {0, 39}, {39, 0}, {40, 39}} })
	checked(t, "the world 40", last, fault(api.ErrRange, 3))
}

func TestCheckNames(t *testing.T) {
	names := func(w int, l ...string) func(m *api.Model) {
		return func(m *api.Model) { m.True[w] = l }
	}
	m := model(3)
	for w := range 3 {
		checked(t, "names", with(m, names(w, "p", "abcdefgh", "z", "p")), api.Fault{})
		checked(t, "30 names", with(m, names(w, slices.Repeat([]string{"p"}, 30)...)), api.Fault{})
		checked(t, "31 names", with(m, names(w, slices.Repeat([]string{"p"}, 31)...)), fault(api.ErrMany, w))
		for _, bad := range []string{"", "abcdefghi", "P", "p ", "1", "a1", "\x00", "\u00e9", strings.Repeat("a", 1<<16)} {
			checked(t, "no name", with(m, names(w, bad)), fault(api.ErrName, w))
			checked(t, "no name behind others", with(m, names(w, "p", "q", bad)), fault(api.ErrName, w))
			checked(t, "31 that are no names", with(m, names(w, slices.Repeat([]string{bad}, 31)...)), fault(api.ErrMany, w))
		}
	}
}

// TestCheckOrder has several faults each.
func TestCheckOrder(t *testing.T) {
	many := slices.Repeat([]string{"p"}, 31)
	worlds := func(l ...[]string) api.Model { return api.Model{N: 3, True: l} }
	checked(t, "no name, then too many", worlds(nil, []string{"P"}, many), fault(api.ErrName, 1))
	checked(t, "too many, then no name", worlds(nil, many, []string{"P"}), fault(api.ErrMany, 1))
	checked(t, "no name twice", worlds([]string{"P"}, many, []string{"P"}), fault(api.ErrName, 0))
	m := worlds([]string{"P"}, many, nil)
	m.Rel = [][2]int{{0, 0}, {0, 3}, {4, 0}}
	checked(t, "pairs ahead of names", m, fault(api.ErrRange, 1))
	m.True = append(m.True, nil)
	checked(t, "entries ahead of pairs", m, fault(api.ErrSize, 0))
	m.N = 41
	checked(t, "N ahead of entries", m, fault(api.ErrMany, 0))
	m.N, m.Rel = 3, slices.Repeat([][2]int{{9, 9}}, 2001)
	checked(t, "pairs in number ahead of entries", m, fault(api.ErrMany, 0))
}
