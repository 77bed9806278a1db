package kripke_test

import (
	"math/rand"
	"reflect"
	"slices"
	"testing"

	"sequent/api"
	"sequent/calculus"
	"sequent/kripke"
)

// refused looks that Prove tells just this fault.
func refused(t *testing.T, what string, s api.Sequent, want api.Fault) {
	t.Helper()
	p, counter, valid, f := kripke.Prove(s)
	if f != want {
		t.Errorf("%s: fault %v, want %v", what, f, want)
	}
	if !reflect.DeepEqual(p, api.Proof{}) || !reflect.DeepEqual(counter, api.Model{}) || valid {
		t.Errorf("%s: %v, %v, %v beside a fault", what, p, counter, valid)
	}
}

// letters are names of one letter each.
func letters(n int) []api.Formula {
	var l []api.Formula
	for i := range n {
		l = append(l, name(string(rune('a'+i))))
	}
	return l
}

func TestNotPlain(t *testing.T) {
	p := name("p")
	for _, c := range []struct {
		what string
		f    api.Formula
		code int
	}{
		{"zero", api.Formula{}, api.ErrKind},
		{"no kind", node(10), api.ErrKind},
		{"below zero", node(-1), api.ErrKind},
		{"box", node(api.FBox, p), api.ErrKind},
		{"diamond within", node(api.FNot, node(api.FAnd, p, node(api.FDia, p))), api.ErrKind},
		{"no Kids", node(api.FNot), api.ErrSize},
		{"one Kid", node(api.FAnd, p), api.ErrSize},
		{"three Kids", node(api.FOr, p, p, p), api.ErrSize},
		{"no name", name(""), api.ErrName},
		{"a long name", name("abcdefghi"), api.ErrName},
		{"a name of true", api.Formula{Kind: api.FTrue, Name: "p"}, api.ErrName},
		{"too many nodes", nots(api.MaxNodes, p), api.ErrMany},
		{"without end", endless(), api.ErrMany},
	} {
		told := func(s api.Sequent, at int) {
			t.Helper()
			refused(t, c.what, s, fault(c.code, at))
			if e := calculus.CheckSequent(s); e != fault(c.code, at) {
				t.Errorf("%s: CheckSequent says %v", c.what, e)
			}
		}
		told(api.Sequent{Left: []api.Formula{c.f}}, 0)
		told(api.Sequent{Right: []api.Formula{c.f}}, 0)
		told(api.Sequent{Left: []api.Formula{p, c.f}, Right: []api.Formula{p}}, 1)
		told(api.Sequent{Left: slices.Repeat([]api.Formula{p}, 59), Right: []api.Formula{c.f}}, 59)
		told(api.Sequent{Left: []api.Formula{p}, Right: []api.Formula{p, p, c.f}}, 3)
		told(api.Sequent{Left: append(letters(11), c.f)}, 11)
	}
}

func TestTwoAtTheRight(t *testing.T) {
	p := name("p")
	two := []api.Formula{p, p}
	refused(t, "p twice", api.Sequent{Right: two}, fault(api.ErrForm, 0))
	refused(t, "p twice, and at the Left", api.Sequent{Left: two, Right: two}, fault(api.ErrForm, 0))
	refused(t, "60", api.Sequent{Right: slices.Repeat(two, 30)}, fault(api.ErrForm, 0))
	refused(t, "61", api.Sequent{Left: two, Right: slices.Repeat(two, 30)}, fault(api.ErrMany, 0))
	refused(t, "too many parts, too", api.Sequent{Left: letters(20), Right: two}, fault(api.ErrForm, 0))
	refused(t, "no formula behind", api.Sequent{Right: []api.Formula{p, {}}}, fault(api.ErrKind, 1))
}

func TestMostParts(t *testing.T) {
	for n := range 26 {
		s := api.Sequent{Left: letters(n)}
		if n > api.MaxSubs {
			refused(t, "names", s, fault(api.ErrMany, 0))
		} else {
			decided(t, s)
		}
		s = api.Sequent{Right: []api.Formula{nots(n, name("p"))}}
		if n >= api.MaxSubs {
			refused(t, "nots", s, fault(api.ErrMany, 0))
		} else {
			decided(t, s)
		}
	}
	ten := sequent(t, "p, q, ~p, ~q, q -> p, q -> q => ~(p & q) | (p -> q)")
	decided(t, ten)
	ten.Left = append(ten.Left, ten.Left...)
	decided(t, ten)
	refused(t, "one more", api.Sequent{Left: append(ten.Left, name("r")), Right: ten.Right}, fault(api.ErrMany, 0))
	refused(t, "a valid one", api.Sequent{Left: letters(11), Right: letters(1)}, fault(api.ErrMany, 0))
	refused(t, "eleven in one formula", api.Sequent{Right: []api.Formula{read(t, "(a & b) & (c & d) & (e & f)")}}, fault(api.ErrMany, 0))
}

// TestMostFormulas: at most 60 formulas stand in a sequent, so that some go ahead of a rule that makes it longer.
func TestMostFormulas(t *testing.T) {
	p, q := name("p"), name("q")
	for _, c := range []struct {
		f, right api.Formula
		want     bool
	}{
		{p, p, true},
		{p, q, false},
		{p, read(t, "q -> p"), true},
		{p, read(t, "~~p"), true},
		{p, read(t, "~p"), false},
		{read(t, "p & q"), read(t, "q & p"), true},
		{read(t, "p & ~p"), q, true},
		{read(t, "~(p | ~p)"), q, true},
		{read(t, "p | q"), read(t, "q | p"), true},
		{read(t, "(p -> q) -> p"), read(t, "~~p"), true},
		{read(t, "(p -> q) -> p"), p, false},
		{read(t, "~~~p"), read(t, "~p"), true},
		{node(api.FFalse), p, true},
		{p, node(api.FTrue), true},
	} {
		for _, n := range []int{1, 2, 19, 20, 21, 22, 57, 58, 59} {
			s := api.Sequent{Left: slices.Repeat([]api.Formula{c.f}, n), Right: []api.Formula{c.right}}
			if valid := decided(t, s); valid != c.want {
				t.Errorf("%d times: %s: %v", n, told(s), valid)
			}
		}
		many := slices.Repeat([]api.Formula{c.f}, 60)
		decided(t, api.Sequent{Left: many})
		refused(t, "61", api.Sequent{Left: many, Right: []api.Formula{c.right}}, fault(api.ErrMany, 0))
	}
	decided(t, api.Sequent{Left: slices.Repeat([]api.Formula{p, q, read(t, "p -> q"), read(t, "~(p & q)")}, 15)})
}

// size is how many steps p has, and how deep it is.
func size(p api.Proof) (steps, deep int) {
	for _, k := range p.Kids {
		s, d := size(k)
		steps, deep = steps+s, max(deep, d)
	}
	return steps + 1, deep + 1
}

// doubled joins f with itself so many times.
func doubled(kind, times int, f api.Formula) api.Formula {
	for range times {
		f = node(kind, f, f)
	}
	return f
}

// TestDoubledSides: formulas that are joined with themselves have as many branches as they have names.
func TestDoubledSides(t *testing.T) {
	p := name("p")
	for or := range 7 {
		for and := range 7 {
			s := api.Sequent{Left: []api.Formula{doubled(api.FOr, or, p)}, Right: []api.Formula{doubled(api.FAnd, and, p)}}
			if len(partsOf(s)) > api.MaxSubs {
				refused(t, told(s), s, fault(api.ErrMany, 0))
				continue
			}
			proof, _, valid := proved(t, s)
			if steps, _ := size(proof); !valid || steps > 1<<(or+and+1) {
				t.Errorf("%s: %v, %d steps", told(s), valid, steps)
			}
		}
	}
}

// TestLongProofs: in the longest that are known of so many parts (a search for longer ones found none) each branch needs all others again.
func TestLongProofs(t *testing.T) {
	either := read(t, "p | ~p")
	for times, most := range []int{12, 30, 90, 260, 900, 3400} {
		all := doubled(api.FAnd, times, either)
		for _, s := range []api.Sequent{
			{Left: []api.Formula{node(api.FThen, all, nots(1, name("p")))}, Right: []api.Formula{all}},
			{Left: []api.Formula{nots(1, all)}, Right: []api.Formula{name("p")}},
		} {
			proof, _, valid := proved(t, s)
			if steps, _ := size(proof); !valid || steps > most {
				t.Errorf("%s: %v, %d steps", told(s), valid, steps)
			}
		}
	}
	s := api.Sequent{Left: []api.Formula{nots(1, node(api.FAnd, doubled(api.FAnd, 3, either), doubled(api.FAnd, 5, either)))}, Right: []api.Formula{name("p")}}
	proof, _, valid := proved(t, s)
	if steps, _ := size(proof); !valid || steps > 6000 {
		t.Errorf("%s: %v, %d steps", told(s), valid, steps)
	}
}

// rulesIn counts the steps by each rule.
func rulesIn(p api.Proof) map[string]int {
	count := map[string]int{p.Rule: 1}
	for _, k := range p.Kids {
		for rule, n := range rulesIn(k) {
			count[rule] += n
		}
	}
	return count
}

// TestWhatGoesAlong: what is not needed goes only where a sequent would get long.
func TestWhatGoesAlong(t *testing.T) {
	for text, want := range map[string]int{"p => p": 0, "0 => p": 0, "p => 1": 0, "p & q => q": 1, "p => ~~p": 1} {
		s := sequent(t, text)
		p, _, _ := proved(t, s)
		if n := rulesIn(p)["weak"]; n != 0 {
			t.Errorf("%s: %d steps by weak", text, n)
		}
		s.Left = slices.Repeat(s.Left, 59)
		p, _, _ = proved(t, s)
		if n := rulesIn(p)["weak"]; n != want {
			t.Errorf("59 times: %s: %d steps by weak", text, n)
		}
	}
}

// far is more steps than any proof has.
const far = 1 << 40

// rounds is the second reckoning of the fewest steps: of all sequents of some parts at once.
type rounds struct {
	parts []api.Formula
	kids  [][2]int
	steps [][]int // by the set of those at the Left, and the one at the Right
}

func roundsOf(parts []api.Formula) *rounds {
	r := &rounds{parts: parts}
	for _, f := range parts {
		var kids [2]int
		for k := range f.Kids {
			isKid := func(g api.Formula) bool { return text(g) == text(f.Kids[k]) }
			kids[k] = slices.IndexFunc(parts, isKid)
		}
		r.kids = append(r.kids, kids)
	}
	for range 1 << len(parts) {
		r.steps = append(r.steps, slices.Repeat([]int{far}, len(parts)+1))
	}
	for isMoving := true; isMoving; {
		isMoving = false
		for left := range r.steps {
			for right := range r.steps[left] {
				if n := r.best(left, right); n < r.steps[left][right] {
					r.steps[left][right], isMoving = n, true
				}
			}
		}
	}
	return r
}

func (r *rounds) best(left, right int) int {
	least := far
	for i, f := range r.parts {
		isLeft, isRight := left>>i&1 == 1, right == i
		if isLeft && isRight || isRight && f.Kind == api.FTrue || isLeft && f.Kind == api.FFalse {
			return 1
		}
		if isLeft {
			least = min(least, 1+r.atLeft(left, right, i))
		}
		if isRight {
			least = min(least, 1+r.atRight(left, i))
		}
	}
	return least
}

func (r *rounds) atLeft(left, right, i int) int {
	a, b := r.kids[i][0], r.kids[i][1]
	switch r.parts[i].Kind {
	case api.FNot:
		return r.steps[left][a]
	case api.FAnd:
		return r.steps[left|1<<a|1<<b][right]
	case api.FOr:
		return r.steps[left|1<<a][right] + r.steps[left|1<<b][right]
	case api.FThen:
		return r.steps[left][a] + r.steps[left|1<<b][right]
	}
	return far
}

func (r *rounds) atRight(left, i int) int {
	a, b := r.kids[i][0], r.kids[i][1]
	switch r.parts[i].Kind {
	case api.FNot:
		return r.steps[left|1<<a][len(r.parts)]
	case api.FAnd:
		return r.steps[left][a] + r.steps[left][b]
	case api.FOr:
		return min(r.steps[left][a], r.steps[left][b])
	case api.FThen:
		return r.steps[left|1<<a][b]
	}
	return far
}

// fewestSteps are those of s, contr-l and weak not counted; 0, if s has no proof.
func fewestSteps(s api.Sequent) int {
	parts := partsOf(s)
	r := roundsOf(parts)
	left, right := 0, len(parts)
	for i, f := range parts {
		isThis := func(g api.Formula) bool { return text(f) == text(g) }
		if slices.ContainsFunc(s.Left, isThis) {
			left |= 1 << i
		}
		if slices.ContainsFunc(s.Right, isThis) {
			right = i
		}
	}
	if r.steps[left][right] >= far {
		return 0
	}
	return r.steps[left][right]
}

// TestFewestSteps: a proof has no step too many, so that it stays far from its limits.
func TestFewestSteps(t *testing.T) {
	chance := rand.New(rand.NewSource(6))
	for range 6000 {
		s := anySequent(chance, 1+chance.Intn(8))
		p, _, valid := proved(t, s)
		steps, _ := size(p)
		count := rulesIn(p)
		if want := fewestSteps(s); valid != (want > 0) || valid && steps-count["contr-l"]-count["weak"] != want {
			t.Fatalf("%s: %v, %d steps, want %d", told(s), valid, steps, want)
		}
		if count["contr-l"] > steps/2 {
			t.Fatalf("%s: %v", told(s), count)
		}
	}
}

// TestShortProofs: none is shorter. A formula that is taken from the Left, and needed again, is doubled first.
func TestShortProofs(t *testing.T) {
	for text, want := range map[string]int{
		"p => p":                  1,
		"=> 1":                    1,
		"0 => p":                  1,
		"0, p => p":               1,
		"=> p -> p":               2,
		"p & q => p":              2,
		"p & q => q & p":          4,
		"p | q => q | p":          5,
		"=> ~~(p | ~p)":           8,
		"p -> q, p => q":          3,
		"~p, p =>":                2,
		"p -> q, q -> r, p => r":  5,
		"~(p | ~p) =>":            7,
		"~(p | ~p), ~(p | ~p) =>": 6,
	} {
		proof, _, valid := proved(t, sequent(t, text))
		if steps, _ := size(proof); !valid || steps != want {
			t.Errorf("%s: %v, %d steps, want %d", text, valid, steps, want)
		}
	}
}

// TestSmallModels: what speaks against a sequent is no larger than it needs to be.
func TestSmallModels(t *testing.T) {
	for text, want := range map[string]int{
		"=>":                      1,
		"p => q":                  1,
		"=> p | ~p":               2,
		"=> ((p -> q) -> p) -> p": 2,
		"=> ~~p -> p":             2,
		"=> ~p | ~~p":             3,
		"=> (p -> q) | (q -> p)":  3,
	} {
		if _, m, valid := proved(t, sequent(t, text)); valid || m.N != want {
			t.Errorf("%s: %v, %v", text, valid, m)
		}
	}
	_, m, _ := proved(t, sequent(t, "z & b, m, c, ~q => a"))
	if m.N != 1 || !slices.Equal(m.True[0], []string{"b", "c", "m", "z"}) {
		t.Errorf("names: %v", m)
	}
}
