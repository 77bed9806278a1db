package unify_test

import (
	"slices"
	"strconv"
	"strings"
	"testing"

	"sequent/api"
	"sequent/first"
	"sequent/unify"
)

// faulty is a word and the code that chapter 13's Check tells of it alone.
type faulty struct {
	what string
	w    api.Word
	code int
}

// endless holds itself.
func endless() api.Word {
	args := make([]api.Word, 1)
	args[0] = api.Word{Name: "F", Args: args}
	return args[0]
}

// doubled has 2^n leaves, though only n lists are made.
func doubled(n int) api.Word {
	w := word("x")
	for range n {
		w = word("G", w, w)
	}
	return w
}

func faultyWords() []faulty {
	const most = api.MaxNodes
	x, many := word("x"), func(n int) []api.Word { return slices.Repeat(words("x"), n) }
	l := []faulty{
		{"zero word", api.Word{}, api.ErrName},
		{"no name within", word("G", x, nested(3, word(""))), api.ErrName},
		{"no name, with Args", word("", x), api.ErrName},
		{"a variable with Args", word("x", x), api.ErrSize},
		{"a variable with Args within", word("F", word("G", x, word("y", word("C")))), api.ErrSize},
		{"a variable with Args ahead of these", word("x", word("")), api.ErrSize},
		{"a name ahead of Args", word("F", word("1", word("x", x))), api.ErrName},
		{"two numbers of Args", word("F", word("F", x, x)), api.ErrForm},
		{"two numbers of Args, side by side", word("G", word("F", x), word("F")), api.ErrForm},
		{"two numbers of Args ahead of a name", word("G", word("C"), word("C", word(""))), api.ErrForm},
		{"a name ahead of two numbers of Args", word("H", word(""), word("C"), word("C", x)), api.ErrName},
		{"one node too many", nested(most, x), api.ErrMany},
		{"one Arg too many", word("F", many(most)...), api.ErrMany},
		{"one Arg too many, deeper", nested(1, word("G", many(most-1)...)), api.ErrMany},
		{"a fault at the last node", nested(most-1, word("")), api.ErrName},
		{"a fault behind the last node", nested(most, word("")), api.ErrMany},
		{"a fault ahead of too many", word("G", word("x1"), nested(most, x)), api.ErrName},
		{"very many Args", word("F", many(1<<20)...), api.ErrMany},
		{"very many Args of a variable", word("x", many(1<<20)...), api.ErrSize},
		{"very deep", nested(50000, x), api.ErrMany},
		{"endless", endless(), api.ErrMany},
		{"doubled", doubled(60), api.ErrMany},
	}
	for _, s := range []string{"abcdefghi", "ABCDEFGHI", "Abcdefghi", "xY", "x1", "X1", "1", "x y", " x", "X ", "x\n", "\x00", "`", "{", "x{", "@", "[", "X[", "é", "X\xff", "x(", "F(x)", strings.Repeat("A", 1<<20)} {
		short := strconv.Quote(s[:min(len(s), 20)])
		l = append(l, faulty{"name " + short, word(s), api.ErrName}, faulty{"name within " + short, word("G", x, word(s, x)), api.ErrName})
	}
	return l
}

// twenty has so many words that can be made the same, and match, whatever they are.
func twenty(n int) question {
	return question{slices.Repeat(words("x"), n), slices.Repeat(words("C"), n)}
}

// with is q with a word at the place, which is counted through a and then b.
func (q question) with(place int, w api.Word) question {
	a, b := slices.Clone(q.a), slices.Clone(q.b)
	if place < len(a) {
		a[place] = w
	} else {
		b[place-len(a)] = w
	}
	return question{a, b}
}

func TestFaultsOfWords(t *testing.T) {
	for name, call := range calls() {
		for _, c := range faultyWords() {
			for _, n := range []int{1, 2, 20} {
				for _, place := range []int{0, n - 1, n, 2*n - 1} {
					refused(t, name+": "+c.what, call, twenty(n).with(place, c.w), fault(c.code, place))
				}
			}
			refused(t, name+": with itself: "+c.what, call, question{[]api.Word{c.w}, []api.Word{c.w}}, fault(c.code, 0))
		}
	}
}

// TestFaultsAreChapter13s: those that the test above asks for are what Check says of words, where one node more does not matter.
func TestFaultsAreChapter13s(t *testing.T) {
	for _, c := range faultyWords() {
		f := first.Check(api.Expr{Kind: api.EPred, Name: "P", Words: []api.Word{c.w}})
		if f.Code != c.code && c.what != "a fault at the last node" {
			t.Errorf("%s: %v, want %d", c.what, f, c.code)
		}
	}
}

// TestTheFirstFaultIsTold: whatever the others are.
func TestTheFirstFaultIsTold(t *testing.T) {
	l := faultyWords()
	for name, call := range calls() {
		for i, c := range l {
			q := twenty(3).with(5, l[(i+1)%len(l)].w).with(4, l[(i+7)%len(l)].w)
			refused(t, name+": b, "+c.what, call, q.with(3, c.w), fault(c.code, 3))
			refused(t, name+": a ahead of b, "+c.what, call, q.with(2, c.w), fault(c.code, 2))
			refused(t, name+": a, "+c.what, call, q.with(2, l[(i+3)%len(l)].w).with(1, c.w), fault(c.code, 1))
		}
	}
}

func TestFaultsOfLists(t *testing.T) {
	bad := []api.Word{{}}
	for name, call := range calls() {
		for _, c := range []struct {
			what string
			a, b int
			want api.Fault
		}{
			{"none", 0, 0, api.Fault{}},
			{"one", 1, 1, api.Fault{}},
			{"twenty", 20, 20, api.Fault{}},
			{"twenty-one", 21, 21, fault(api.ErrMany, 0)},
			{"twenty-one in a", 21, 20, fault(api.ErrMany, 0)},
			{"twenty-one in b", 20, 21, fault(api.ErrMany, 0)},
			{"twenty-one in a, none in b", 21, 0, fault(api.ErrMany, 0)},
			{"none in a, twenty-one in b", 0, 21, fault(api.ErrMany, 0)},
			{"very many", 1 << 20, 1 << 20, fault(api.ErrMany, 0)},
			{"none in a", 0, 1, fault(api.ErrSize, 0)},
			{"none in b", 1, 0, fault(api.ErrSize, 0)},
			{"one more in a", 20, 19, fault(api.ErrSize, 0)},
			{"one more in b", 19, 20, fault(api.ErrSize, 0)},
			{"none and twenty", 0, 20, fault(api.ErrSize, 0)},
		} {
			q := question{slices.Repeat(words("x"), c.a), slices.Repeat(words("C"), c.b)}
			if c.want == (api.Fault{}) {
				_, f := call(q.a, q.b)
				sameFault(t, name+": "+c.what, f, c.want)
				continue
			}
			refused(t, name+": "+c.what, call, q, c.want)
			refused(t, name+": no words at all, "+c.what, call, question{slices.Repeat(bad, c.a), slices.Repeat(bad, c.b)}, c.want)
		}
	}
}

// TestWordsAreLookedAtAheadOfBeingMadeTheSame: there are faults behind words that can never be the same.
func TestWordsAreLookedAtAheadOfBeingMadeTheSame(t *testing.T) {
	q := readQuestion(t, "C=D x=F(x) x=C x=D G(x,x)=y")
	for name, call := range calls() {
		refused(t, name, call, q, fault(api.ErrNone, 0))
		refused(t, name, call, q.with(9, word("x1")), fault(api.ErrName, 9))
		refused(t, name, call, q.with(4, word("F", word("F"))), fault(api.ErrForm, 4))
	}
}

// TestBigNamesMayHaveOtherPlacesInOtherWords: they are just not the same then.
func TestBigNamesMayHaveOtherPlacesInOtherWords(t *testing.T) {
	for text, want := range map[string]api.Fault{
		"F(x)=F(C) F=F":                    {},
		"F(x)=F(C) F(x,x)=F(C,C) F=F":      {},
		"F(x)=y F(x,x)=z F=w":              {}, // Match: y, z and w are no places of big names
		"x=F y=F(C) z=F(C,C)":              {},
		"F(x)=F(C,C)":                      fault(api.ErrNone, 0),
		"F=F(C)":                           fault(api.ErrNone, 0),
		"F(C)=F":                           fault(api.ErrNone, 0),
		"x=F(C) x=F(C,C)":                  fault(api.ErrNone, 0),
		"x=F x=F(F(C))":                    fault(api.ErrNone, 0),
		"G(x,x)=G(F(C),F(C)) x=F(C,C) F=F": fault(api.ErrNone, 0),
	} {
		q := readQuestion(t, text)
		_, f := unify.Unify(q.a, q.b)
		sameFault(t, "Unify: "+text, f, want)
		if text == "F(x)=y F(x,x)=z F=w" {
			want = fault(api.ErrNone, 0)
		}
		_, f = unify.Match(q.a, q.b)
		sameFault(t, "Match: "+text, f, want)
	}
	l := unified(t, readQuestion(t, "x=F y=F(x) z=F(x,y)"))
	if want := "x=F y=F(F) z=F(F,F(F))"; toldBinds(l) != want {
		t.Errorf("%s, want %s", toldBinds(l), want)
	}
}

// TestMostNodes: a word may have MaxNodes nodes, all words together have as many as they like.
func TestMostNodes(t *testing.T) {
	deep, wide := nested(api.MaxNodes-1, word("x")), word("F", slices.Repeat(words("x"), api.MaxNodes-1)...)
	for name, call := range calls() {
		for _, w := range []api.Word{deep, wide} {
			l := slices.Repeat([]api.Word{w}, 20)
			got, f := call(l, l)
			want := 0
			if name == "Match" {
				want = 1
			}
			if f != (api.Fault{}) || len(got) != want {
				t.Errorf("%s: %s, %v", name, toldBinds(got), f)
			}
			refused(t, name, call, question{l, slices.Repeat([]api.Word{word("G", w)}, 20)}, fault(api.ErrMany, 20))
		}
	}
}
