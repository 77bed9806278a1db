package resolve_test

import (
	"math/rand"
	"slices"
	"strconv"
	"testing"

	"sequent/api"
	"sequent/resolve"
)

// variable is the n-th one that begins so.
func variable(begin string, n int) api.Word {
	s := begin
	for _, digit := range strconv.Itoa(n) {
		s += string('a' + digit - '0')
	}
	return word(s)
}

// tower has a literal and one that can become the same: each y is twice the one ahead of it then, so that the last one is far too large to be written.
func tower(levels int) (a, b api.Literal) {
	a, b = literal("P"), opposite(literal("P"))
	for n := range levels {
		x, y, next := variable("x", n+1), variable("y", n), variable("y", n+1)
		a.Words = append(a.Words, x, x)
		b.Words = append(b.Words, next, word("G", y, y))
	}
	return a, b
}

// TestLargeSubstitutions: what is left is small, but what the other variables become is not.
func TestLargeSubstitutions(t *testing.T) {
	for _, levels := range []int{1, 2, 5, 10, 30} {
		a, b := tower(levels)
		for _, left := range []string{"Q(ya)", "Q(D) R"} {
			l := [][]api.Literal{{a}, append(readClause(t, left), b)}
			steps := []api.Infer{{Kind: 1, Clause: l[0]}, {Kind: 1, A: 1, Clause: l[1]}, {Kind: 2, A: 0, B: 1, J: len(l[1]) - 1, Clause: readClause(t, left)}}
			sameFault(t, "a tower", resolve.Replay(l, steps), fault(api.ErrNone, 3))
			steps[2].Clause = readClause(t, "Q(E) R")
			sameFault(t, "a tower, another clause", resolve.Replay(l, steps), fault(api.ErrFalse, 2))
		}
		last := variable("x", levels)
		l := [][]api.Literal{{a, literal("Q", last)}, {b}}
		steps := []api.Infer{{Kind: 1, Clause: l[0]}, {Kind: 1, A: 1, Clause: l[1]}, {Kind: 2, A: 0, B: 1, Clause: []api.Literal{literal("Q", doubled(min(levels, 6)))}}}
		want := fault(api.ErrNone, 3)
		if levels > 6 {
			want = fault(api.ErrFalse, 2)
		}
		sameFault(t, "the top of a tower", resolve.Replay(l, steps), want)
	}
}

// TestLargeRings: where the substitution would be large, and is none, too.
func TestLargeRings(t *testing.T) {
	a, b := tower(30)
	for what, c := range map[string][2]api.Word{
		"in itself":     {variable("x", 30), word("F", variable("y", 30))},
		"the other way": {word("F", variable("x", 30)), variable("y", 0)},
		"from the top":  {variable("x", 30), variable("y", 0)},
	} {
		v, w := a, b
		v.Words, w.Words = append(slices.Clone(v.Words), c[0]), append(slices.Clone(w.Words), c[1])
		l := [][]api.Literal{{v}, {w}}
		steps := []api.Infer{{Kind: 1, Clause: l[0]}, {Kind: 1, A: 1, Clause: l[1]}, {Kind: 2, A: 0, B: 1}}
		sameFault(t, what, resolve.Replay(l, steps), fault(api.ErrFalse, 2))
		refused(t, what, l, fault(api.ErrNone, 0))
	}
	refuted(t, "no ring", [][]api.Literal{{a}, {b}})
}

// TestJoinedLargely: of one clause, too.
func TestJoinedLargely(t *testing.T) {
	a, b := tower(30)
	l := [][]api.Literal{{literal("Q", word("C")), opposite(a), b}}
	steps := []api.Infer{{Kind: 1, Clause: l[0]}, {Kind: 3, I: 1, J: 2, Clause: l[0][:1]}}
	sameFault(t, "a clause that is left", resolve.Replay(l, steps), fault(api.ErrFalse, 1))
	l[0] = slices.Clone(l[0])
	l[0][1].Words, l[0][2].Words = nil, nil
	steps[0].Clause, steps[1].Clause = l[0], l[0][:2]
	sameFault(t, "without words", resolve.Replay(l, steps), fault(api.ErrNone, 2))
}

// TestWhatComesMayBeTooLarge: then no clause is like it, and Refute does without it.
func TestWhatComesMayBeTooLarge(t *testing.T) {
	deep := nested(120, word("x"))
	l := [][]api.Literal{
		{literal("P", word("x")), literal("Q", word("x")), literal("R", word("x"))},
		{opposite(literal("P", deep))},
		{opposite(literal("Q", word("x")))},
		{opposite(literal("R", word("x")))},
	}
	steps := []api.Infer{{Kind: 1, Clause: l[0]}, {Kind: 1, A: 1, Clause: l[1]}, {Kind: 2, A: 0, B: 1, Clause: []api.Literal{literal("Q", deep), literal("R", deep)}}}
	sameFault(t, "244 nodes", resolve.Replay(l, steps), fault(api.ErrForm, 2))
	steps[2].Clause = steps[2].Clause[:1]
	sameFault(t, "a part of them", resolve.Replay(l, steps), fault(api.ErrFalse, 2))
	refuted(t, "a way around", l)
	many := [][]api.Literal{nil, nil, {opposite(literal("R"))}}
	for n := range 11 {
		many[0] = append(many[0], literal("P", nested(n, word("C"))))
		many[1] = append(many[1], literal("Q", nested(n, word("C"))))
	}
	many[0] = append(many[0][:10:10], literal("R"), literal("S"))
	many[1] = append(many[1][:10:10], opposite(literal("R")))
	steps = []api.Infer{{Kind: 1, Clause: many[0]}, {Kind: 1, A: 1, Clause: many[1]}, {Kind: 2, A: 0, B: 1, I: 10, J: 10}}
	steps[2].Clause = slices.Concat(many[0][:10], many[0][11:], many[1][:10])
	sameFault(t, "21 literals", resolve.Replay(many, steps), fault(api.ErrForm, 2))
	refused(t, "21 literals", many, fault(api.ErrNone, 0))
}

// each has one literal for each number: what tells of it.
func each(n int, literal func(at int) api.Literal) []api.Literal {
	var c []api.Literal
	for at := range n {
		c = append(c, literal(at))
	}
	return c
}

func lettered(begin string, at int) string { return begin + string(rune('a'+at)) }

func TestTwentyLiterals(t *testing.T) {
	all := each(20, func(at int) api.Literal { return literal(lettered("P", at)) })
	l := [][]api.Literal{all}
	for _, k := range all {
		l = append(l, []api.Literal{opposite(k)})
	}
	refuted(t, "twenty literals", l)
	refused(t, "one of them is left", l[:20], fault(api.ErrNone, 0))
}

// TestNoStepHasTooManyLiterals: the two first clauses make one of 21 literals, which all others would soon lead on from.
func TestNoStepHasTooManyLiterals(t *testing.T) {
	var x []api.Word
	for at := range 11 {
		x = append(x, variable("x", at))
	}
	q := each(11, func(at int) api.Literal { return literal(lettered("Q", at), x[at]) })
	s := each(10, func(at int) api.Literal { return literal(lettered("S", at), x[at]) })
	l := [][]api.Literal{append(slices.Clone(q), literal("R", x...)), append(slices.Clone(s), opposite(literal("R", x...)))}
	for at := range 11 {
		l = append(l, []api.Literal{opposite(literal(lettered("Q", at), nested(50, word("C"))))})
	}
	for at := range 10 {
		l[1][at].Words = []api.Word{variable("y", at)}
		l = append(l, []api.Literal{opposite(literal(lettered("S", at), nested(60, word("C"))))})
	}
	refuted(t, "a way around", l)
}

// counter counts from zero to the greatest number of so many binary digits, one by one.
func counter(digits int) [][]api.Literal {
	zeros, ones := slices.Repeat(words("O"), digits), slices.Repeat(words("I"), digits)
	l := [][]api.Literal{{literal("P", zeros...)}, {opposite(literal("P", ones...))}}
	for at := range digits {
		var x []api.Word
		for n := range at {
			x = append(x, variable("x", n))
		}
		was := slices.Concat(x, zeros[:1], ones[at+1:])
		is := slices.Concat(x, ones[:1], zeros[at+1:])
		l = append(l, []api.Literal{opposite(literal("P", was...)), literal("P", is...)})
	}
	return l
}

// TestTooManySteps: what takes more than a thousand of them in one way is answered in another one, or not at all.
func TestTooManySteps(t *testing.T) {
	for _, digits := range []int{1, 2, 5, 8, 9, 10, 11} {
		l := counter(digits)
		steps, f := resolve.Refute(l)
		if f == (api.Fault{}) {
			sameFault(t, "a counter", resolve.Replay(l, steps), f)
		} else {
			refused(t, "a counter", l, fault(api.ErrNone, 0))
		}
		if digits < 9 && f != (api.Fault{}) {
			t.Errorf("%d digits: %v", digits, f)
		}
	}
}

// largeAtoms are literals without variables that have so many nodes.
func largeAtoms(sizes [4]int) []api.Literal {
	var l []api.Literal
	for at, n := range sizes {
		k := literal(string(rune('P' + at)))
		switch {
		case n > 1 && at%2 == 0:
			k.Words = []api.Word{nested(n-2, word("C"))}
		case n > 1:
			k.Words = slices.Repeat(words("C"), n-1)
		}
		l = append(l, k)
	}
	return l
}

// bag tells how often a clause has each of four literals, and then each of their opposites.
type bag [8]int

func (b bag) isClause(sizes [4]int) bool {
	literals, all := 0, 0
	for at, n := range b {
		literals += n
		all += n * sizes[at%4]
	}
	return literals <= 20 && all <= api.MaxNodes
}

// canBeRefuted is a second way to tell whether there are steps: it makes all clauses that come of those given and are small enough, with literals that stand twice. It tells how many were too large, too.
func canBeRefuted(given []bag, sizes [4]int) (is bool, large int) {
	known := map[bag]bool{}
	var all []bag
	add := func(b bag) {
		if !b.isClause(sizes) {
			large++
		} else if !known[b] {
			known[b] = true
			all = append(all, b)
		}
	}
	for _, b := range given {
		add(b)
	}
	for at := 0; at < len(all) && !known[bag{}]; at++ {
		a := all[at]
		for k := range a {
			if a[k] > 1 {
				less := a
				less[k]--
				add(less)
			}
			for _, b := range all[:at+1] {
				if a[k] > 0 && b[(k+4)%8] > 0 {
					for j := range b {
						b[j] += a[j]
					}
					b[k]--
					b[(k+4)%8]--
					add(b)
				}
			}
		}
	}
	return known[bag{}], large
}

// largeList is a list of six clauses of such literals, as bags too.
func largeList(chance *rand.Rand, sizes [4]int) (l [][]api.Literal, given []bag) {
	atoms := largeAtoms(sizes)
	for len(l) < 6 {
		var c []api.Literal
		var b bag
		for range 1 + chance.Intn(3) {
			k := chance.Intn(8)
			b[k]++
			c = append(c, atoms[k%4])
			c[len(c)-1].Not = k >= 4
		}
		if b.isClause(sizes) {
			l, given = append(l, c), append(given, b)
		}
	}
	return l, given
}

// TestLargeLiterals: of six clauses whose literals are so large that much of what comes of them is too large to be a clause, steps are found wherever there are any.
func TestLargeLiterals(t *testing.T) {
	chance := rand.New(rand.NewSource(6))
	found, without := 0, 0
	for at := range 1200 {
		sizes := [][4]int{{60, 60, 60, 60}, {70, 70, 60, 60}, {100, 99, 50, 50}, {66, 66, 66, 66}, {90, 90, 40, 60}, {150, 45, 50, 49}}[at%6]
		l, given := largeList(chance, sizes)
		is, large := canBeRefuted(given, sizes)
		if !is {
			refused(t, "large literals", l, fault(api.ErrNone, 0))
			continue
		}
		found++
		if large > 0 {
			without++
		}
		refuted(t, "large literals", l)
	}
	if found < 100 || without < 100 {
		t.Errorf("%d are refuted, %d without clauses that are too large", found, without)
	}
}

// TestNoClauseWithoutNotIsOfUse: what comes of the two that have one is too large, as P and R stand in it twice at first.
func TestNoClauseWithoutNotIsOfUse(t *testing.T) {
	p := largeAtoms([4]int{66, 95, 83, 50})
	l := [][]api.Literal{
		{p[1], opposite(p[2])},
		{p[0], p[2], p[3]},
		{p[1], opposite(p[0])},
		{opposite(p[1])},
		{p[0], p[2], opposite(p[3])},
	}
	refuted(t, "large literals", l)
	slices.Reverse(l)
	refuted(t, "large literals, from the last one on", l)
}

// TestEveryCallEnds: of some of these always more comes, and others have very many literals or words that can be made the same in many ways.
func TestEveryCallEnds(t *testing.T) {
	for _, text := range []string{
		"P(C); ~P(x) P(F(x))",
		"P(C,x); ~P(x,y) P(F(x),G(y,x)); ~P(x,y) P(y,x)",
		"P(x,y) P(y,z) P(z,x); ~P(x,y) ~P(F(x),y) P(x,F(y)); ~P(x,G(x,y)) P(y,x)",
		"Q(x,y) ~Q(y,z) Q(x,z); ~Q(F(x),G(y)) Q(x,y) ~Q(G(x),y); Q(A,B) ~Q(B,A) Q(x,F(x))",
		"T(I(x,I(y,x))); ~T(x) ~T(I(x,y)) T(y); ~T(I(I(A,B),C))",
	} {
		refused(t, text, readList(t, text), fault(api.ErrNone, 0))
	}
	wide := func(name string, not bool, n int) []api.Literal {
		var c []api.Literal
		for i := range n {
			c = append(c, api.Literal{Not: not, Name: name, Words: []api.Word{variable("x", i), variable("x", i+1), variable("x", i*7%n)}})
		}
		return c
	}
	l := [][]api.Literal{wide("P", false, 20), wide("P", true, 20), wide("Q", true, 20), append(wide("P", true, 10), wide("Q", false, 10)...)}
	for n := range 36 {
		l = append(l, append(wide("P", n%2 == 0, 10), wide("P", n%3 == 0, 10)...))
	}
	for _, n := range []int{1, 2, 3, 4, 5, 40} {
		if steps, f := resolve.Refute(l[:n]); f == (api.Fault{}) {
			sameFault(t, "wide clauses", resolve.Replay(l[:n], steps), api.Fault{})
		}
	}
}

// TestManyClausesByChance: forty of them, with literals by chance.
func TestManyClausesByChance(t *testing.T) {
	chance := rand.New(rand.NewSource(7))
	for n := range 30 {
		l := someList(chance, 40, []int{3, 20}[n%2], 1+n%3, "x", "y", "z", "u", "v", "w", "C", "D")
		l = slices.DeleteFunc(l, func(c []api.Literal) bool { return len(c) == 0 || nodes(c) > api.MaxNodes })
		steps, f := resolve.Refute(l)
		if f == (api.Fault{}) {
			sameFault(t, toldList(l), resolve.Replay(l, steps), api.Fault{})
		} else if f != fault(api.ErrNone, 0) || len(steps) > 0 {
			t.Errorf("%s: %v", toldList(l), f)
		}
	}
}

// TestLongReplay: a thousand steps, each as large as it may be.
func TestLongReplay(t *testing.T) {
	c := []api.Literal{literal("P", word("x")), opposite(literal("P", nested(99, word("x")))), literal("Q", nested(95, word("y")))}
	l := [][]api.Literal{c}
	steps := slices.Repeat([]api.Infer{{Kind: 1, Clause: c}}, api.MaxList)
	sameFault(t, "clauses", resolve.Replay(l, steps), fault(api.ErrNone, api.MaxList))
	d := []api.Literal{literal("P", word("x")), literal("P", word("y")), opposite(literal("P", word("z"))), literal("Q", slices.Repeat(words("u"), 192)...)}
	l = append(l, d)
	steps[0] = api.Infer{Kind: 1, A: 1, Clause: d}
	for n := 1; n < api.MaxList; n++ {
		steps[n] = api.Infer{Kind: 1, A: 1, Clause: d}
		if n%2 == 1 {
			steps[n] = api.Infer{Kind: 3, A: n - 1, I: 0, J: 1, Clause: without(d, 1)}
		}
	}
	sameFault(t, "joined ones", resolve.Replay(l, steps), fault(api.ErrNone, api.MaxList))
}
