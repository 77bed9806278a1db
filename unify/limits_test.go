package unify_test

import (
	"math/rand"
	"slices"
	"strconv"
	"testing"

	"sequent/api"
	"sequent/unify"
)

// numbered is the n-th variable that begins so.
func numbered(begin string, n int) api.Word {
	s := begin
	for _, digit := range strconv.Itoa(n) {
		s += string('a' + digit - '0')
	}
	return word(s)
}

// times is a big name of so many of the same.
func times(n int, w api.Word) api.Word {
	name := "T"
	for _, digit := range strconv.Itoa(n) {
		name += string('a' + digit - '0')
	}
	return word(name, slices.Repeat([]api.Word{w}, n)...)
}

func (q question) and(a, b api.Word) question {
	return question{append(slices.Clone(q.a), a), append(slices.Clone(q.b), b)}
}

// tower says that each variable is so many times the one ahead of it: what the last one becomes is as large as these numbers multiplied, or larger.
func tower(begin string, levels ...int) question {
	var q question
	for i, n := range levels {
		q = q.and(numbered(begin, i+1), times(n, numbered(begin, i)))
	}
	return q
}

// inOne has all pairs of q in one.
func (q question) inOne() question {
	return question{[]api.Word{word("All", q.a...)}, []api.Word{word("All", q.b...)}}
}

// orders are q, and its pairs in other orders and turned.
func (q question) orders() []question {
	chance := rand.New(rand.NewSource(5))
	back := question{slices.Clone(q.a), slices.Clone(q.b)}
	slices.Reverse(back.a)
	slices.Reverse(back.b)
	l := []question{q, back, q.turned(), back.turned()}
	for range 3 {
		var mixed question
		for _, at := range chance.Perm(len(q.a)) {
			pair := []api.Word{q.a[at], q.b[at]}
			side := chance.Intn(2)
			mixed = mixed.and(pair[side], pair[1-side])
		}
		l = append(l, mixed)
	}
	return l
}

func sizeOf(l []api.Bind) int {
	n := 0
	for _, b := range l {
		n += count([]api.Word{b.Word})
	}
	return n
}

// unifiedOrMuch asks for a substitution, or for ErrMuch where that may be told. It tells whether there was one.
func unifiedOrMuch(t *testing.T, what string, q question) bool {
	t.Helper()
	l, f := unify.Unify(q.a, q.b)
	if f == fault(api.ErrMuch, 0) && q.nodes() > 40 {
		refused(t, what, unify.Unify, q, f)
		return false
	}
	if f != (api.Fault{}) {
		t.Errorf("%s: %v", what, f)
		return false
	}
	looksRight(t, q, l)
	return true
}

// largest tells which tower of so many nodes, with pairs of its last variable and other ones behind it, has the largest substitution, and how many nodes that has.
func largest(nodes int) (q question, size int) {
	var levels []int
	var grow func(left, last, all int)
	grow = func(left, last, all int) {
		if most := all + left/2*last; most > size {
			size, q = most, tower("x", levels...)
			for i := range left / 2 {
				q = q.and(numbered("y", i), numbered("x", len(levels)))
			}
		}
		for n := 1; n+2 <= left; n++ {
			levels = append(levels, n)
			grow(left-n-2, n*last+1, all+n*last+1)
			levels = levels[:len(levels)-1]
		}
	}
	grow(nodes, 1, 0)
	return q, size
}

// TestFortyNodesAreAlwaysAnswered: however large their substitution is.
func TestFortyNodesAreAlwaysAnswered(t *testing.T) {
	for _, nodes := range []int{2, 3, 4, 5, 6, 7, 10, 20, 30, 38, 39, 40} {
		q, size := largest(nodes)
		if q.nodes() > nodes || nodes == 40 && (q.nodes() != 40 || size != 19944) {
			t.Errorf("%d nodes: %s, %d", nodes, q.told(), size)
		}
		for _, o := range q.orders() {
			if got := sizeOf(unified(t, o)); got != size {
				t.Errorf("%s: %d nodes, want %d", o.told(), got, size)
			}
		}
		if nodes <= 38 {
			if got := sizeOf(unified(t, q.inOne())); got != size {
				t.Errorf("%s: %d nodes, want %d", q.inOne().told(), got, size)
			}
		}
	}
	chance, seen := rand.New(rand.NewSource(6)), 0
	for range 20000 {
		q := someQuestion(chance, 20, 1, "x", "y", "z", "u", "v", "w", "C")
		if q.nodes() <= 40 && q.nodes() > 30 {
			seen++
			isSolvedAlike(t, q)
		}
	}
	if seen < 2000 {
		t.Errorf("only %d are close to forty nodes", seen)
	}
}

// TestTowers: from some height on what they become is too large.
func TestTowers(t *testing.T) {
	for n := range 20 {
		for _, times := range []int{1, 2, 3, 60, 199} {
			q := tower("x", slices.Repeat([]int{times}, n+1)...)
			for _, o := range q.orders() {
				is := unifiedOrMuch(t, "tower", o)
				if times == 1 && !is || times == 199 && n > 2 && is {
					t.Errorf("%d levels of %d: %v", n+1, times, is)
				}
			}
		}
	}
	if unifiedOrMuch(t, "a high tower", tower("x", slices.Repeat([]int{2}, 66)...).inOne()) {
		t.Error("it cannot be answered")
	}
}

// variables are so many, from the n-th on.
func variables(begin string, n, many int) []api.Word {
	var l []api.Word
	for i := range many {
		l = append(l, numbered(begin, n+i))
	}
	return l
}

// TestWhatIsTooLarge: 100000 nodes are answered, whatever they come of.
func TestWhatIsTooLarge(t *testing.T) {
	y := word("y")
	q := question{}.and(y, nested(99, word("C")))
	for i := range 5 {
		q = q.and(word("All", variables("x", 199*i, 199)...), word("All", slices.Repeat(words("y"), 199)...))
	}
	for i := range 4 {
		q = q.and(numbered("z", i), y)
	}
	for _, o := range q.orders() {
		if n := sizeOf(unified(t, o)); n != 100000 {
			t.Errorf("%d nodes", n)
		}
		refused(t, "one more", unify.Unify, o.and(word("w"), word("C")), fault(api.ErrMuch, 0))
	}
}

// pairOf makes two questions one.
func pairOf(p, q question) question {
	return question{slices.Concat(p.a, q.a), slices.Concat(p.b, q.b)}
}

// TestNoneAheadOfMuch: where there is no substitution it is not told to be too large, however large what stands in the way would be.
func TestNoneAheadOfMuch(t *testing.T) {
	for _, levels := range [][]int{slices.Repeat([]int{2}, 60), {60, 60, 60}, {60, 2, 1, 60}} {
		top := len(levels)
		both := pairOf(tower("x", levels...).inOne(), tower("y", levels...).inOne()).and(numbered("x", top), numbered("y", top))
		for _, o := range both.orders() {
			unifiedOrMuch(t, "two towers that are one", o)
		}
		x, y, c, d := numbered("x", 0), numbered("y", 0), word("C"), word("D")
		for what, q := range map[string]question{
			"two grounds":           both.and(x, c).and(y, d),
			"two grounds within":    both.and(x, nested(150, c)).and(y, nested(150, d)),
			"a tower on itself":     both.and(x, nested(1, numbered("x", top))),
			"two towers in a ring":  both.and(y, word("G", c, numbered("x", top))),
			"a ground within":       both.and(x, nested(1, y)),
			"a ground in its tower": tower("x", levels...).inOne().and(x, numbered("x", 1)),
			"another one":           both.and(c, d),
			"a small ring":          both.and(word("z"), nested(1, word("z"))),
		} {
			for _, o := range q.orders() {
				refused(t, what, unify.Unify, o, fault(api.ErrNone, 0))
			}
		}
	}
}

// TestVariablesThatMeetWords: no variable of the one tower ever meets one of the other, so that all of both would be gone through again and again, if just variables were known to be the same.
func TestVariablesThatMeetWords(t *testing.T) {
	var a, b question
	const levels = 30
	for i := range levels {
		next, other := numbered("a", i+1), nested(1, numbered("b", i+1))
		a = a.and(numbered("a", i), word("F", word("G", next, next)))
		b = b.and(numbered("b", i), word("G", other, other))
	}
	q := pairOf(a.inOne(), b.inOne()).and(numbered("a", 0), nested(1, numbered("b", 0)))
	for _, o := range q.orders() {
		unifiedOrMuch(t, "it is there", o)
	}
	q = q.and(numbered("a", levels), word("F", word("C"))).and(numbered("b", levels), word("D"))
	for _, o := range q.orders() {
		refused(t, "the grounds are not the same", unify.Unify, o, fault(api.ErrNone, 0))
	}
}

// TestDeepWords: each variable stands at the bottom of the word of another one.
func TestDeepWords(t *testing.T) {
	var q question
	for i := range 20 {
		q = q.and(numbered("x", i), nested(199, numbered("x", i+1)))
	}
	for _, o := range q.orders() {
		l := unified(t, o)
		if n := count([]api.Word{valuesOf(l)[numbered("x", 0).Name]}); n != 20*199+1 {
			t.Errorf("%d nodes", n)
		}
	}
	q.b[19] = nested(199, numbered("x", 0))
	for _, o := range q.orders() {
		refused(t, "a ring of deep words", unify.Unify, o, fault(api.ErrNone, 0))
	}
	q.b[19] = nested(199, numbered("x", 19))
	for _, o := range q.orders() {
		refused(t, "a deep word in itself", unify.Unify, o, fault(api.ErrNone, 0))
	}
}

// TestWideWords has as many variables as can be handed in.
func TestWideWords(t *testing.T) {
	const wide = 198
	var rows, ring question
	for i := range 20 {
		l := word("All", variables("x", wide*i, wide)...)
		rows = rows.and(l, word("All", variables("x", wide*(19-i), wide)...))
		ring = ring.and(l, word("All", variables("x", wide*i+1, wide)...))
	}
	for _, o := range rows.orders() {
		if l := unified(t, o); len(l) != 10*wide {
			t.Errorf("%d are others", len(l))
		}
	}
	for _, o := range ring.orders() {
		if l := unified(t, o); len(l) != 20*wide {
			t.Errorf("%d are others", len(l))
		}
	}
	ring.b[7] = word("All", append(variables("x", wide*7+1, wide-1), nested(1, numbered("x", 2000)))...)
	ring.b[19] = word("All", append(variables("x", wide*19+1, wide-1), numbered("x", 0))...)
	for _, o := range ring.orders() {
		refused(t, "one stands in itself, by way of many", unify.Unify, o, fault(api.ErrNone, 0))
	}
}

// TestMatchOfLargeWords: a variable's words are held against each other at many places.
func TestMatchOfLargeWords(t *testing.T) {
	var q question
	x, y, deep := word("x"), word("y"), nested(97, word("x"))
	for range 20 {
		q = q.and(word("H", x, y, x), word("H", deep, word("C"), deep))
	}
	l, f := unify.Match(q.a, q.b)
	if want := []api.Bind{{Name: "x", Word: deep}, {Name: "y", Word: word("C")}}; f != (api.Fault{}) || toldBinds(l) != toldBinds(want) {
		t.Errorf("%s, %v", toldBinds(l), f)
	}
	q.b[19] = word("H", deep, word("C"), nested(97, y))
	refused(t, "the last one is another", unify.Match, q, fault(api.ErrNone, 0))
	var wide question
	for i := range 20 {
		l := variables("x", 199*i, 199)
		slices.Reverse(l)
		wide = wide.and(word("All", l...), word("All", variables("x", 199*i+1, 199)...))
	}
	l, f = unify.Match(wide.a, wide.b)
	if f != (api.Fault{}) || len(l) != 20*199 {
		t.Fatalf("%d binds, %v", len(l), f)
	}
	if !slices.EqualFunc(valuesOf(l).inAll(wide.a), wide.b, isSame) {
		t.Error("they do not match")
	}
}
