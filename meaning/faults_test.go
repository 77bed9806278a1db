package meaning_test

import (
	"math/rand"
	"slices"
	"strings"
	"testing"

	"sequent/api"
	"sequent/first"
	"sequent/meaning"
)

// question is what Value is asked.
type question struct {
	s      api.Structure
	e      api.Expr
	names  []string
	values []int
}

// refused asks Value where something is wrong.
func refused(t *testing.T, what string, q question, want api.Fault) {
	t.Helper()
	is, f := meaning.Value(q.s, q.e, q.names, q.values)
	sameFault(t, what, f, want)
	if is {
		t.Errorf("%s: true is answered beside a fault", what)
	}
}

// faulty is an expression with a fault that chapter 13's Check tells.
type faulty struct {
	what string
	e    api.Expr
	want api.Fault
}

func faultyExprs() []faulty {
	x := word("x")
	kids := make([]api.Expr, 1)
	kids[0] = api.Expr{Kind: api.ENot, Kids: kids}
	args := make([]api.Word, 1)
	args[0] = api.Word{Name: "F", Args: args}
	doubled, doubledWord := pred("Q"), x
	for range 60 {
		doubled, doubledWord = and(doubled, doubled), word("G", doubledWord, doubledWord)
	}
	return []faulty{
		{"zero expression", api.Expr{}, fault(api.ErrKind, 0)},
		{"no such kind", not(node(11)), fault(api.ErrKind, 1)},
		{"kind below 0", and(pred("Q"), node(-1)), fault(api.ErrKind, 2)},
		{"no kid", node(api.ENot), fault(api.ErrSize, 0)},
		{"three kids", not(node(api.EAnd, pred("Q"), pred("Q"), pred("Q"))), fault(api.ErrSize, 1)},
		{"one word", api.Expr{Kind: api.ESame, Words: words("x")}, fault(api.ErrSize, 0)},
		{"a big name behind a quantifier", all("X", pred("Q")), fault(api.ErrName, 0)},
		{"no name behind a quantifier", some("x", all("", pred("Q"))), fault(api.ErrName, 1)},
		{"a small name of a predicate", not(pred("p")), fault(api.ErrName, 1)},
		{"no name of a word", pred("P", word("")), fault(api.ErrName, 1)},
		{"a variable with Args", pred("P", word("x", x)), fault(api.ErrSize, 1)},
		{"two numbers of places", and(pred("P", x), pred("P", x, x)), fault(api.ErrForm, 3)},
		{"two numbers of Args", same(word("F", x), word("F")), fault(api.ErrForm, 3)},
		{"too many nodes", nots(api.MaxNodes, pred("Q")), fault(api.ErrMany, 0)},
		{"too many words", pred("P", slices.Repeat(words("x"), api.MaxNodes)...), fault(api.ErrMany, 0)},
		{"too many quantifiers", below(letters(api.MaxNodes), pred("Q"), api.EAll, api.ESome), fault(api.ErrMany, 0)},
		{"very deep", nots(50000, pred("Q")), fault(api.ErrMany, 0)},
		{"very deep quantifiers", below(slices.Repeat([]string{"x"}, 50000), pred("Q"), api.EAll), fault(api.ErrMany, 0)},
		{"a very deep word", pred("P", nested(50000, x)), fault(api.ErrMany, 0)},
		{"endless", kids[0], fault(api.ErrMany, 0)},
		{"an endless word", pred("P", args[0]), fault(api.ErrMany, 0)},
		{"doubled", doubled, fault(api.ErrMany, 0)},
		{"a doubled word", same(doubledWord, x), fault(api.ErrMany, 0)},
	}
}

// TestAllTellWhatChecksSay: what chapter 13's says of the expression, and, ahead of it, what Check says of the structure.
func TestAllTellWhatChecksSay(t *testing.T) {
	for _, c := range faultyExprs() {
		want := c.want
		sameFault(t, c.what, first.Check(c.e), want)
		refused(t, c.what, question{order(), c.e, nil, nil}, want)
		refused(t, c.what+", with wrong values", question{order(), c.e, []string{"X"}, nil}, want)
		refused(t, c.what+", in no structure", question{api.Structure{}, c.e, nil, nil}, fault(api.ErrMany, 0))
		wrong := order()
		wrong.Preds[2].Arity = 4
		refused(t, c.what+", in a wrong structure", question{wrong, c.e, nil, []int{7}}, fault(api.ErrRange, 5))
		for call, got := range map[string]func(api.Expr) (api.Expr, api.Fault){"Prenex": meaning.Prenex, "Skolem": meaning.Skolem} {
			e, f := got(c.e)
			sameFault(t, call+": "+c.what, f, want)
			if !isZero(e) {
				t.Errorf("%s: %s: an expression is answered beside a fault", call, c.what)
			}
		}
	}
}

func TestValueFaults(t *testing.T) {
	x, seven := pred("P", word("x")), below(letters(7), pred("Q"), api.EAll)
	for _, c := range []struct {
		what   string
		e      api.Expr
		names  []string
		values []int
		want   api.Fault
	}{
		{"a name more", x, []string{"x", "y"}, []int{0}, fault(api.ErrSize, 0)},
		{"a value more", x, []string{"x"}, []int{0, 0}, fault(api.ErrSize, 0)},
		{"no value", x, []string{"x"}, nil, fault(api.ErrSize, 0)},
		{"no name", x, nil, []int{0}, fault(api.ErrSize, 0)},
		{"just twenty", x, append(letters(19), "x"), make([]int, 20), api.Fault{}},
		{"twenty-one", x, append(letters(20), "x"), make([]int, 21), fault(api.ErrSize, 0)},
		{"twenty-one of one name", x, slices.Repeat([]string{"x"}, 21), make([]int, 21), fault(api.ErrSize, 0)},
		{"twenty names, twenty-one values", x, append(letters(19), "x"), make([]int, 21), fault(api.ErrSize, 0)},
		{"very many", x, slices.Repeat([]string{"x"}, 1<<20), make([]int, 1<<20), fault(api.ErrSize, 0)},
		{"size ahead of names and values", x, []string{"X", ""}, []int{-1}, fault(api.ErrSize, 0)},
		{"size ahead of what is not there", pred("None"), []string{"x"}, nil, fault(api.ErrSize, 0)},
		{"size ahead of too many quantifiers", seven, []string{"x"}, nil, fault(api.ErrSize, 0)},

		{"a big name", x, []string{"x", "X"}, []int{0, 0}, fault(api.ErrName, 1)},
		{"a name ahead of its value", x, []string{"X"}, []int{3}, fault(api.ErrName, 0)},
		{"a value ahead of the next name", x, []string{"x", "X"}, []int{3, 0}, fault(api.ErrRange, 0)},
		{"a name ahead of the next value", x, []string{"X", "x"}, []int{0, 3}, fault(api.ErrName, 0)},
		{"the last of twenty", x, append(letters(19), "x1"), make([]int, 20), fault(api.ErrName, 19)},
		{"the last value of twenty", x, append(letters(19), "x"), append(make([]int, 19), 3), fault(api.ErrRange, 19)},
		{"the highest value", x, []string{"x"}, []int{2}, api.Fault{}},
		{"above it", x, []string{"x"}, []int{3}, fault(api.ErrRange, 0)},
		{"far above it", x, []string{"x"}, []int{1<<63 - 1}, fault(api.ErrRange, 0)},
		{"below 0", x, []string{"y", "x"}, []int{0, -1}, fault(api.ErrRange, 1)},
		{"far below 0", x, []string{"x"}, []int{-1 << 63}, fault(api.ErrRange, 0)},
		{"a value that counts no more", x, []string{"x", "x"}, []int{3, 0}, fault(api.ErrRange, 0)},
		{"a value that nobody asks for", pred("Q"), []string{"x"}, []int{3}, fault(api.ErrRange, 0)},
		{"names ahead of what is not there", pred("None"), []string{"x "}, []int{0}, fault(api.ErrName, 0)},
		{"values ahead of what is not there", pred("None"), []string{"x"}, []int{3}, fault(api.ErrRange, 0)},
		{"values ahead of too many quantifiers", seven, []string{"x"}, []int{3}, fault(api.ErrRange, 0)},

		{"no such predicate", pred("K"), nil, nil, fault(api.ErrNone, 0)},
		{"no such predicate, where it does not matter", or(node(api.ETrue), pred("K")), nil, nil, fault(api.ErrNone, 0)},
		{"no such predicate, deeper", all("x", not(and(pred("Q"), pred("K", word("x"))))), nil, nil, fault(api.ErrNone, 0)},
		{"fewer places", pred("P"), nil, nil, fault(api.ErrNone, 0)},
		{"more places", pred("P", word("C"), word("C")), nil, nil, fault(api.ErrNone, 0)},
		{"many more places", pred("P", slices.Repeat(words("C"), 190)...), nil, nil, fault(api.ErrNone, 0)},
		{"a function as a predicate", pred("F", word("C")), nil, nil, fault(api.ErrNone, 0)},
		{"a constant as a predicate", pred("C"), nil, nil, fault(api.ErrNone, 0)},
		{"a predicate as a function", pred("P", word("P", word("C"))), nil, nil, fault(api.ErrNone, 0)},
		{"a predicate as a constant", pred("P", word("Q")), nil, nil, fault(api.ErrNone, 0)},
		{"no such constant", pred("P", word("K")), nil, nil, fault(api.ErrNone, 0)},
		{"no such function, deeper", pred("P", word("F", word("G", word("C"), word("K", word("C"))))), nil, nil, fault(api.ErrNone, 0)},
		{"a function of fewer places", same(word("F"), word("C")), nil, nil, fault(api.ErrNone, 0)},
		{"a function of more places", same(word("C"), word("F", word("C"), word("C"))), nil, nil, fault(api.ErrNone, 0)},
		{"a constant of more places", same(word("x"), word("C", word("x"))), []string{"x"}, []int{0}, fault(api.ErrNone, 0)},
		{"no value of a variable", x, nil, nil, fault(api.ErrNone, 0)},
		{"of another variable", x, []string{"y"}, []int{0}, fault(api.ErrNone, 0)},
		{"of a variable in a word", pred("P", word("F", word("x"))), []string{"y"}, []int{0}, fault(api.ErrNone, 0)},
		{"of a variable that is bound elsewhere", and(all("x", x), x), nil, nil, fault(api.ErrNone, 0)},
		{"of a variable that is bound behind it", or(x, all("x", x)), nil, nil, fault(api.ErrNone, 0)},
		{"of a variable, where it does not matter", then(node(api.EFalse), x), nil, nil, fault(api.ErrNone, 0)},
		{"of one of two", pred("R", words("x", "y")...), []string{"x"}, []int{0}, fault(api.ErrNone, 0)},
		{"of a bound one", all("x", x), nil, nil, api.Fault{}},
		{"what is not there ahead of too many quantifiers", below(letters(7), pred("K"), api.EAll), nil, nil, fault(api.ErrNone, 0)},
		{"a variable ahead of too many quantifiers", below(letters(7), x, api.EAll), nil, nil, fault(api.ErrNone, 0)},

		{"six quantifiers", below(letters(6), pred("Q"), api.ESome), nil, nil, api.Fault{}},
		{"seven quantifiers", seven, nil, nil, fault(api.ErrMany, 0)},
		{"seven, where they do not matter", or(pred("Q"), seven), nil, nil, fault(api.ErrMany, 0)},
		{"seven of one variable", below(slices.Repeat([]string{"x"}, 7), x, api.ESome), nil, nil, fault(api.ErrMany, 0)},
		{"seven with others between", all("a", not(and(pred("Q"), below(letters(6), or(pred("Q"), pred("Q")), api.ESome)))), nil, nil, fault(api.ErrMany, 0)},
		{"most quantifiers", below(letters(api.MaxNodes-1), pred("Q"), api.ESome), nil, nil, fault(api.ErrMany, 0)},
	} {
		q := question{order(), c.e, c.names, c.values}
		if c.want == (api.Fault{}) {
			valued(t, q.s, q.e, q.names, q.values)
			continue
		}
		refused(t, c.what, q, c.want)
	}
}

// TestValueOfNoVariables: names that are none, at the first and at the second place.
func TestValueOfNoVariables(t *testing.T) {
	for _, name := range []string{"", "abcdefghi", "X", "xY", "Xy", "x1", "1", "x y", " x", "x\n", "\x00", "`", "{", "x{", "é", "\xff", "x'", "_", strings.Repeat("a", 1<<20)} {
		refused(t, short(name), question{order(), pred("Q"), []string{name}, []int{0}}, fault(api.ErrName, 0))
		refused(t, short(name), question{order(), pred("Q"), []string{"x", name, ""}, []int{0, 0, 9}}, fault(api.ErrName, 1))
	}
	valued(t, order(), pred("P", word("abcdefgh")), []string{"abcdefgh", "a", "z"}, []int{0, 1, 2})
}

// valueFault is what Value must tell, by the words of the chapter.
func valueFault(q question) api.Fault {
	if f := checkedAgain(q.s); f.Code != 0 {
		return f
	}
	if f := first.Check(q.e); f.Code != 0 {
		return f
	}
	if len(q.names) != len(q.values) || len(q.names) > 20 {
		return fault(api.ErrSize, 0)
	}
	for at, name := range q.names {
		switch {
		case name == "" || len(name) > 8 || strings.Trim(name, "abcdefghijklmnopqrstuvwxyz") != "":
			return fault(api.ErrName, at)
		case q.values[at] < 0 || q.values[at] >= q.s.N:
			return fault(api.ErrRange, at)
		}
	}
	has := map[symbol]bool{}
	for _, f := range q.s.Funs {
		has[symbol{f.Name, f.Arity, true}] = true
	}
	for _, p := range q.s.Preds {
		has[symbol{p.Name, p.Arity, false}] = true
	}
	for s := range symbolsIn(q.e) {
		if !has[s] {
			return fault(api.ErrNone, 0)
		}
	}
	for name := range freeIn(q.e) {
		if !slices.Contains(q.names, name) {
			return fault(api.ErrNone, 0)
		}
	}
	if isTooMany(q.s.N, q.e) {
		return fault(api.ErrMany, 0)
	}
	return api.Fault{}
}

// marred is e, perhaps with something wrong in it.
func marred(chance *rand.Rand, e api.Expr) api.Expr {
	switch chance.Intn(14) {
	case 0:
		return not(node(chance.Intn(13) - 1))
	case 1:
		return and(e, pred("p"))
	case 2:
		return and(e, pred("P", slices.Repeat(words("x"), chance.Intn(3))...))
	case 3:
		return or(pred("K"), e)
	case 4:
		return or(e, same(word("x"), word("F", slices.Repeat(words("y"), chance.Intn(3))...)))
	case 5:
		return below(letters(1+chance.Intn(7)), e, api.EAll, api.ESome)
	case 6:
		return and(e, pred("P", word("Q")))
	}
	return e
}

func marredNames(chance *rand.Rand, q *question) {
	at := chance.Intn(len(q.names))
	switch chance.Intn(10) {
	case 0:
		q.names[at] = [...]string{"X", "", "w", "abcdefghi"}[chance.Intn(4)]
	case 1:
		q.values[at] = chance.Intn(6) - 1
	case 2:
		q.names = q.names[:at]
	case 3:
		q.values = append(q.values, 0)
	case 4:
		q.names, q.values = q.names[:at], q.values[:at]
	case 5:
		q.names = append(q.names, slices.Repeat([]string{"x"}, 16+chance.Intn(3))...)
		q.values = append(q.values, make([]int, 16+chance.Intn(3))...)
	}
}

func someQuestion(chance *rand.Rand) question {
	n := 1 + chance.Intn(3)
	q := question{
		s:      meanings(chance, n, vocabulary()...),
		e:      byChance(chance, 1+chance.Intn(5), "x", "y", "z"),
		names:  []string{"x", "y", "z"},
		values: []int{chance.Intn(n), chance.Intn(n), chance.Intn(n)},
	}
	if chance.Intn(3) == 0 {
		mar(chance, &q.s)
	}
	q.e = marred(chance, q.e)
	if chance.Intn(2) == 0 {
		marredNames(chance, &q)
	}
	return q
}

func TestValueOfMarredQuestions(t *testing.T) {
	chance := rand.New(rand.NewSource(4))
	codes, none := map[api.Fault]int{}, 0
	for range 40000 {
		q := someQuestion(chance)
		want := valueFault(q)
		if want != (api.Fault{}) {
			refused(t, text(q.e), q, want)
			codes[want]++
			continue
		}
		none++
		var g *given
		for i, name := range q.names {
			g = &given{name, q.values[i], g}
		}
		if got := valued(t, q.s, q.e, q.names, q.values); got != isTrue(&q.s, &q.e, g) {
			t.Fatalf("%s in %v, %v %v: %v", text(q.e), q.s, q.names, q.values, got)
		}
	}
	if none < 1000 || len(codes) < 30 || min(codes[fault(api.ErrNone, 0)], codes[fault(api.ErrMany, 0)], codes[fault(api.ErrSize, 0)]) < 100 {
		t.Errorf("%d without a fault, and few faults came: %v", none, codes)
	}
}
