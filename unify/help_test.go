package unify_test

import (
	"maps"
	"math/rand"
	"slices"
	"strings"
	"testing"

	"sequent/api"
	"sequent/first"
	"sequent/unify"
)

func fault(code, at int) api.Fault { return api.Fault{Code: code, At: at} }

func word(name string, args ...api.Word) api.Word { return api.Word{Name: name, Args: args} }

func words(names ...string) []api.Word {
	var l []api.Word
	for _, n := range names {
		l = append(l, word(n))
	}
	return l
}

// nested is w below so many F.
func nested(n int, w api.Word) api.Word {
	for range n {
		w = word("F", w)
	}
	return w
}

// read reads words of which blanks stand between.
func read(t *testing.T, text string) []api.Word {
	t.Helper()
	var l []api.Word
	for part := range strings.FieldsSeq(text) {
		e, f := first.Parse(part + " = " + part)
		if f != (api.Fault{}) {
			t.Fatalf("Parse(%q): %v", part, f)
		}
		l = append(l, e.Words[0])
	}
	return l
}

// question is what both calls are asked.
type question struct {
	a, b []api.Word
}

// readQuestion reads pairs: what stands ahead of each = is of a, what stands behind it is of b.
func readQuestion(t *testing.T, text string) question {
	t.Helper()
	var q question
	for i, w := range read(t, strings.ReplaceAll(text, "=", " ")) {
		if i%2 == 0 {
			q.a = append(q.a, w)
		} else {
			q.b = append(q.b, w)
		}
	}
	return q
}

func (q question) turned() question { return question{q.b, q.a} }

func (q question) nodes() int { return count(q.a) + count(q.b) }

func (q question) variables() []string { return variablesIn(slices.Concat(q.a, q.b)) }

func (q question) told() string {
	var l []string
	for i := range max(len(q.a), len(q.b)) {
		var pair [2]string
		for side, words := range [][]api.Word{q.a, q.b} {
			if i < len(words) {
				pair[side] = told(words[i])
			}
		}
		l = append(l, pair[0]+"="+pair[1])
	}
	return strings.Join(l, " ")
}

// told writes a word as Parse reads it; words are the same just if they are told alike.
func told(w api.Word) string {
	if len(w.Args) == 0 {
		return w.Name
	}
	var l []string
	for _, a := range w.Args {
		l = append(l, told(a))
	}
	return w.Name + "(" + strings.Join(l, ",") + ")"
}

func toldBinds(l []api.Bind) string {
	var s []string
	for _, b := range l {
		s = append(s, b.Name+"="+told(b.Word))
	}
	return strings.Join(s, " ")
}

func isSmall(name string) bool { return name != "" && 'a' <= name[0] && name[0] <= 'z' }

func isSame(a, b api.Word) bool {
	return a.Name == b.Name && slices.EqualFunc(a.Args, b.Args, isSame)
}

// wordsIn are the words and all that are in them.
func wordsIn(l []api.Word) []api.Word {
	var out []api.Word
	for _, w := range l {
		out = append(out, w)
		out = append(out, wordsIn(w.Args)...)
	}
	return out
}

func count(l []api.Word) int {
	n := 0
	for _, w := range l {
		n += 1 + count(w.Args)
	}
	return n
}

// addVariables: the set is asked where what comes out is too large for lists of all that is in it.
func addVariables(set map[string]bool, l []api.Word) {
	for _, w := range l {
		if isSmall(w.Name) {
			set[w.Name] = true
		}
		addVariables(set, w.Args)
	}
}

// variablesIn has each once, rising.
func variablesIn(l []api.Word) []string {
	set := map[string]bool{}
	addVariables(set, l)
	return slices.Sorted(maps.Keys(set))
}

// values are words for some variables.
type values map[string]api.Word

func valuesOf(l []api.Bind) values {
	v := values{}
	for _, b := range l {
		v[b.Name] = b.Word
	}
	return v
}

// in puts the values into w, all at once.
func (v values) in(w api.Word) api.Word {
	if value, known := v[w.Name]; known {
		return value
	}
	return api.Word{Name: w.Name, Args: v.inAll(w.Args)}
}

func (v values) inAll(l []api.Word) []api.Word {
	var out []api.Word
	for _, w := range l {
		out = append(out, v.in(w))
	}
	return out
}

// makeSame tells whether the values make each word of q.a the one of q.b at its place.
func (v values) makeSame(q question) bool {
	for i := range q.a {
		if !isSame(v.in(q.a[i]), v.in(q.b[i])) {
			return false
		}
	}
	return true
}

// isMadeOf tells whether v is what comes of other by v once more. Of an other one whose words have none of its own variables v is made by anything just if it is by itself.
func (v values) isMadeOf(other values, variables []string) bool {
	for _, name := range variables {
		if !isSame(v.in(other.in(word(name))), v.in(word(name))) {
			return false
		}
	}
	return true
}

// solve is a second way to make words the same, by the rules of Martelli and Montanari: one pair after the other, where a variable's word is put into all that is left and all that is found at once.
func solve(q question) (found values, is bool) {
	found = values{}
	a, b := slices.Clone(q.a), slices.Clone(q.b)
	for len(a) > 0 {
		v, w := a[0], b[0]
		a, b = a[1:], b[1:]
		switch {
		case isSame(v, w):
		case isSmall(v.Name):
			if slices.Contains(variablesIn([]api.Word{w}), v.Name) {
				return nil, false
			}
			one := values{v.Name: w}
			a, b = one.inAll(a), one.inAll(b)
			for name, value := range found {
				found[name] = one.in(value)
			}
			found[v.Name] = w
		case isSmall(w.Name):
			a, b = append(a, w), append(b, v)
		case v.Name != w.Name || len(v.Args) != len(w.Args):
			return nil, false
		default:
			a, b = append(a, v.Args...), append(b, w.Args...)
		}
	}
	return found, true
}

// small tells all words with so many nodes.
func small(nodes int, leaves ...string) []api.Word {
	if nodes == 1 {
		return words(leaves...)
	}
	var l []api.Word
	for _, w := range small(nodes-1, leaves...) {
		l = append(l, word("F", w))
	}
	for left := 1; left < nodes-1; left++ {
		for _, v := range small(left, leaves...) {
			for _, w := range small(nodes-1-left, leaves...) {
				l = append(l, word("G", v, w))
			}
		}
	}
	return l
}

// upTo are all words with at most so many nodes.
func upTo(nodes int, leaves ...string) []api.Word {
	var l []api.Word
	for n := 1; n <= nodes; n++ {
		l = append(l, small(n, leaves...)...)
	}
	return l
}

// byChance is a word of these leaves, at most so deep.
func byChance(chance *rand.Rand, deep int, leaves ...string) api.Word {
	inner := func() api.Word { return byChance(chance, deep-1, leaves...) }
	k := chance.Intn(8)
	switch {
	case deep == 0 || k > 4:
		return word(leaves[chance.Intn(len(leaves))])
	case k == 0:
		return word("C")
	case k == 1:
		return word("F", inner())
	case k < 4:
		return word("G", inner(), inner())
	}
	return word("H", inner(), inner(), inner())
}

// closeBy is w with some of what is in it changed into something else, so that the two can often be made the same.
func closeBy(chance *rand.Rand, w api.Word, leaves ...string) api.Word {
	if chance.Intn(4) == 0 {
		return word(leaves[chance.Intn(len(leaves))])
	}
	if isSmall(w.Name) && chance.Intn(4) == 0 {
		return byChance(chance, 1, leaves...)
	}
	out := api.Word{Name: w.Name}
	for _, a := range w.Args {
		out.Args = append(out.Args, closeBy(chance, a, leaves...))
	}
	return out
}

// someQuestion has pairs of words of which many can be made the same.
func someQuestion(chance *rand.Rand, most, deep int, leaves ...string) question {
	var q question
	for range chance.Intn(most + 1) {
		w := byChance(chance, deep, leaves...)
		q.a = append(q.a, w)
		q.b = append(q.b, closeBy(chance, w, leaves...))
	}
	return q
}

func sameFault(t *testing.T, what string, got, want api.Fault) {
	t.Helper()
	if got != want {
		t.Errorf("%s: fault %v, want %v", what, got, want)
	}
}

// calls are both of the package.
func calls() map[string]func(a, b []api.Word) ([]api.Bind, api.Fault) {
	return map[string]func(a, b []api.Word) ([]api.Bind, api.Fault){"Unify": unify.Unify, "Match": unify.Match}
}

// refused asks for a fault, and that nothing is told beside it.
func refused(t *testing.T, what string, call func(a, b []api.Word) ([]api.Bind, api.Fault), q question, want api.Fault) {
	t.Helper()
	l, f := call(q.a, q.b)
	sameFault(t, what, f, want)
	if len(l) > 0 {
		t.Errorf("%s: %d binds are answered beside a fault", what, len(l))
	}
}

func TestHelpers(t *testing.T) {
	q := readQuestion(t, "F(x)=y G(x,C)=z")
	if q.told() != "F(x)=y G(x,C)=z" || q.nodes() != 7 || !slices.Equal(q.variables(), []string{"x", "y", "z"}) {
		t.Errorf("%s: %d nodes of %q", q.told(), q.nodes(), q.variables())
	}
	v := values{"x": word("y"), "y": word("x")}
	if got := told(v.in(read(t, "G(x,F(y))")[0])); got != "G(y,F(x))" {
		t.Errorf("%s: they are not put all at once", got)
	}
	if got := len(upTo(4, "x", "C")); got != 2+2+6+14 {
		t.Errorf("%d small words", got)
	}
	found, is := solve(readQuestion(t, "G(x,y)=G(F(y),z) z=C"))
	if !is || told(found.in(read(t, "G(x,G(y,z))")[0])) != "G(F(C),G(C,C))" {
		t.Errorf("%v, %v", found, is)
	}
	for _, text := range []string{"x=F(x)", "C=D", "F(x)=G(x,x)", "x=F(y) y=F(x)"} {
		if _, is := solve(readQuestion(t, text)); is {
			t.Errorf("%s is solved", text)
		}
	}
	if !(values{"x": word("C"), "y": word("C")}).isMadeOf(values{"x": word("y")}, []string{"x", "y"}) {
		t.Error("x and y may both be C where they are the same")
	}
	if (values{"x": word("y")}).isMadeOf(values{"x": word("C"), "y": word("C")}, []string{"x", "y"}) {
		t.Error("x and y may be the same where they are not C")
	}
}
