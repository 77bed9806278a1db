package bisim_test

import (
	"math"
	"math/rand"
	"reflect"
	"slices"
	"strings"
	"testing"

	"sequent/api"
	"sequent/bisim"
	"sequent/kripke"
)

// refused looks that Tell tells just this fault, and nothing beside it.
func refused(t *testing.T, what string, m api.Model, u, v int, want api.Fault) {
	t.Helper()
	if f, e := bisim.Tell(m, u, v); e != want || !reflect.DeepEqual(f, api.Formula{}) {
		t.Errorf("%s: Tell of %d and %d: %v, %v, want %v", what, u, v, f, e, want)
	}
}

// refusedModel looks that Classes and Shrink do so.
func refusedModel(t *testing.T, what string, m api.Model, want api.Fault) {
	t.Helper()
	if l, e := bisim.Classes(m); e != want || len(l) != 0 {
		t.Errorf("%s: Classes: %v, %v, want %v", what, l, e, want)
	}
	if s, e := bisim.Shrink(m); e != want || !reflect.DeepEqual(s, api.Model{}) {
		t.Errorf("%s: Shrink: %v, %v, want %v", what, s, e, want)
	}
}

// badModel is one that Check speaks against.
type badModel struct {
	what string
	m    api.Model
	want api.Fault
}

// badModels have each fault of chapter 5's Check, alone and ahead of others.
func badModels() []badModel {
	many := slices.Repeat([]string{"p"}, 31)
	list := func(n int) [][]string { return make([][]string, n) }
	pairs := func(n int, pair [2]int) [][2]int { return slices.Repeat([][2]int{pair}, n) }
	return []badModel{
		{"the zero model", api.Model{}, fault(api.ErrMany, 0)},
		{"no worlds", api.Model{True: list(1)}, fault(api.ErrMany, 0)},
		{"fewer than none", api.Model{N: -1}, fault(api.ErrMany, 0)},
		{"the least N", api.Model{N: math.MinInt, True: list(2)}, fault(api.ErrMany, 0)},
		{"the greatest N", api.Model{N: math.MaxInt, True: list(2)}, fault(api.ErrMany, 0)},
		{"41 worlds", api.Model{N: 41, True: list(41)}, fault(api.ErrMany, 0)},
		{"64 worlds", api.Model{N: 64, True: list(64)}, fault(api.ErrMany, 0)},
		{"65 worlds", api.Model{N: 65, Rel: [][2]int{{64, 64}}, True: list(65)}, fault(api.ErrMany, 0)},
		{"2001 pairs", api.Model{N: 1, Rel: pairs(2001, [2]int{}), True: list(1)}, fault(api.ErrMany, 0)},
		{"2001 pairs ahead of all else", api.Model{N: 1, Rel: pairs(2001, [2]int{9, 9}), True: list(3)}, fault(api.ErrMany, 0)},
		{"no entries", api.Model{N: 2}, fault(api.ErrSize, 0)},
		{"an entry too few", api.Model{N: 2, True: list(1)}, fault(api.ErrSize, 0)},
		{"an entry too many, and other faults", api.Model{N: 2, Rel: pairs(1, [2]int{2, 2}), True: [][]string{many, nil, {"P"}}}, fault(api.ErrSize, 0)},
		{"a pair from none", api.Model{N: 2, Rel: [][2]int{{0, 1}, {2, 0}}, True: list(2)}, fault(api.ErrRange, 1)},
		{"a pair to none", api.Model{N: 2, Rel: [][2]int{{0, 1}, {1, 1}, {0, 2}}, True: list(2)}, fault(api.ErrRange, 2)},
		{"a pair from below", api.Model{N: 2, Rel: [][2]int{{-1, 1}, {9, 9}}, True: [][]string{{"P"}, many}}, fault(api.ErrRange, 0)},
		{"a pair to the least", api.Model{N: 40, Rel: [][2]int{{39, math.MinInt}}, True: list(40)}, fault(api.ErrRange, 0)},
		{"a pair to the greatest", api.Model{N: 40, Rel: [][2]int{{39, 39}, {math.MaxInt, 0}}, True: list(40)}, fault(api.ErrRange, 1)},
		{"a pair to world 40", api.Model{N: 40, Rel: [][2]int{{39, 40}}, True: list(40)}, fault(api.ErrRange, 0)},
		{"31 names", api.Model{N: 3, True: [][]string{nil, many, {"P"}}}, fault(api.ErrMany, 1)},
		{"31 that are none", api.Model{N: 3, True: [][]string{nil, nil, slices.Repeat([]string{""}, 31)}}, fault(api.ErrMany, 2)},
		{"no name, then 31", api.Model{N: 3, True: [][]string{{"p", "P"}, many, nil}}, fault(api.ErrName, 0)},
		{"the empty name", api.Model{N: 1, True: [][]string{{""}}}, fault(api.ErrName, 0)},
		{"nine letters", api.Model{N: 2, True: [][]string{{"abcdefgh"}, {"abcdefghi"}}}, fault(api.ErrName, 1)},
		{"very many letters", api.Model{N: 1, True: [][]string{{strings.Repeat("a", 1<<20)}}}, fault(api.ErrName, 0)},
		{"a blank", api.Model{N: 1, True: [][]string{{"p q"}}}, fault(api.ErrName, 0)},
	}
}

// noWorlds are numbers that no world of n has.
func noWorlds(n int) []int {
	return []int{n, n + 1, -1, -n, 64, 1 << 32, math.MaxInt, math.MinInt}
}

// TestModelsFaults: they are told ahead of worlds that are not there, and ahead of those that are alike.
func TestModelsFaults(t *testing.T) {
	for _, c := range badModels() {
		if e := kripke.Check(c.m); e != c.want {
			t.Errorf("%s: Check says %v, want %v", c.what, e, c.want)
		}
		refusedModel(t, c.what, c.m, c.want)
		for _, u := range append(noWorlds(2), 0, 1) {
			for _, v := range append(noWorlds(2), 0, 1) {
				refused(t, c.what, c.m, u, v, c.want)
			}
		}
	}
}

// TestNoSuchWorld: u is told ahead of v, and both ahead of worlds that are alike.
func TestNoSuchWorld(t *testing.T) {
	for _, m := range []api.Model{seeing(""), seeing("1", ""), line(8), ring(9), line(40), tooHard()} {
		for _, bad := range noWorlds(m.N) {
			for w := range m.N {
				refused(t, "no u", m, bad, w, fault(api.ErrRange, 1))
				refused(t, "no v", m, w, bad, fault(api.ErrRange, 2))
			}
			for _, other := range noWorlds(m.N) {
				refused(t, "neither", m, bad, other, fault(api.ErrRange, 1))
			}
		}
		refused(t, "the last world twice", m, m.N-1, m.N-1, fault(api.ErrNone, 0))
	}
}

func TestAlikeFaults(t *testing.T) {
	for _, m := range []api.Model{seeing("", ""), seeing("0", "1"), seeing("1", "0"), having(seeing("1", "0"), "pq", "qpp"), ring(40)} {
		for u := range m.N {
			for v := range m.N {
				refused(t, "alike", m, u, v, fault(api.ErrNone, 0))
			}
		}
	}
}

// TestAnyFaults holds what is told against the chapter's order, of models that are marred by chance.
func TestAnyFaults(t *testing.T) {
	chance := rand.New(rand.NewSource(12))
	count := map[api.Fault]int{}
	for range 20000 {
		m := someModel(chance, 4)
		if chance.Intn(2) == 0 {
			mar(chance, &m)
		}
		u, v := chance.Intn(6)-1, chance.Intn(6)-1
		want := kripke.Check(m)
		if want == (api.Fault{}) {
			classed(t, m)
			shrunk(t, m)
		} else {
			refusedModel(t, "marred", m, want)
		}
		switch {
		case want != api.Fault{}:
		case u < 0 || u >= m.N:
			want = fault(api.ErrRange, 1)
		case v < 0 || v >= m.N:
			want = fault(api.ErrRange, 2)
		case alike(m)[u][v]:
			want = fault(api.ErrNone, 0)
		}
		if want == (api.Fault{}) {
			told(t, m, u, v, false)
		} else {
			refused(t, "marred", m, u, v, want)
		}
		count[want]++
	}
	if len(count) < 12 {
		t.Errorf("few faults came: %v", count)
	}
}

func mar(chance *rand.Rand, m *api.Model) {
	switch chance.Intn(5) {
	case 0:
		m.N += chance.Intn(3) - 1
	case 1:
		m.Rel = append(m.Rel, [2]int{chance.Intn(6) - 1, chance.Intn(6) - 1})
	case 2:
		w := chance.Intn(m.N)
		m.True[w] = append(m.True[w], []string{"p", "", "P", "abcdefghi"}[chance.Intn(4)])
	case 3:
		m.True[chance.Intn(m.N)] = slices.Repeat([]string{"p"}, 29+chance.Intn(4))
	case 4:
		m.True = m.True[:chance.Intn(m.N+1)]
	}
}
