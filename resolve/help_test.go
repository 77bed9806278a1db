package resolve_test

import (
	"math/rand"
	"slices"
	"strconv"
	"strings"
	"testing"

	"sequent/api"
	"sequent/resolve"
)

func fault(code, at int) api.Fault { return api.Fault{Code: code, At: at} }

func word(name string, args ...api.Word) api.Word { return api.Word{Name: name, Args: args} }

func words(names ...string) []api.Word {
	var l []api.Word
	for _, n := range names {
		l = append(l, word(n))
	}
	return l
}

func literal(name string, l ...api.Word) api.Literal { return api.Literal{Name: name, Words: l} }

func opposite(l api.Literal) api.Literal {
	l.Not = !l.Not
	return l
}

// nested is w below so many F.
func nested(n int, w api.Word) api.Word {
	for range n {
		w = word("F", w)
	}
	return w
}

// readWord reads a word from the beginning of a text, and tells what is left.
func readWord(t *testing.T, text string) (w api.Word, left string) {
	t.Helper()
	end := strings.IndexAny(text+",", "(,)")
	w.Name, left = text[:end], text[end:]
	if !strings.HasPrefix(left, "(") {
		return w, left
	}
	for !strings.HasPrefix(left, ")") {
		if left == "" {
			t.Fatalf("%q does not end", text)
		}
		var arg api.Word
		arg, left = readWord(t, left[1:])
		w.Args = append(w.Args, arg)
	}
	return w, left[1:]
}

// readClause reads literals of which blanks stand between; ~ stands for Not.
func readClause(t *testing.T, text string) []api.Literal {
	t.Helper()
	var c []api.Literal
	for part := range strings.FieldsSeq(text) {
		w, left := readWord(t, strings.TrimPrefix(part, "~"))
		if left != "" {
			t.Fatalf("%q: %q is left", part, left)
		}
		c = append(c, api.Literal{Not: part[0] == '~', Name: w.Name, Words: w.Args})
	}
	return c
}

// readList reads clauses of which ; stands between.
func readList(t *testing.T, text string) [][]api.Literal {
	t.Helper()
	var l [][]api.Literal
	for part := range strings.SplitSeq(text, ";") {
		l = append(l, readClause(t, part))
	}
	return l
}

// readStep reads "1 A: clause", "2 A B I J: clause" or "3 A I J: clause".
func readStep(t *testing.T, text string) api.Infer {
	t.Helper()
	head, clause, _ := strings.Cut(text, ":")
	var n []int
	for part := range strings.FieldsSeq(head) {
		number, err := strconv.Atoi(part)
		if err != nil {
			t.Fatalf("%q: %v", text, err)
		}
		n = append(n, number)
	}
	s := api.Infer{Kind: n[0], A: n[1], Clause: readClause(t, clause)}
	switch s.Kind {
	case 2:
		s.B, s.I, s.J = n[2], n[3], n[4]
	case 3:
		s.I, s.J = n[2], n[3]
	}
	return s
}

// readSteps reads steps of which ; stands between.
func readSteps(t *testing.T, text string) []api.Infer {
	t.Helper()
	var l []api.Infer
	for part := range strings.SplitSeq(text, ";") {
		l = append(l, readStep(t, part))
	}
	return l
}

func toldWord(w api.Word) string {
	if len(w.Args) == 0 {
		return w.Name
	}
	var l []string
	for _, a := range w.Args {
		l = append(l, toldWord(a))
	}
	return w.Name + "(" + strings.Join(l, ",") + ")"
}

// told writes a clause as readClause reads it; clauses are the same just if they are told alike.
func told(c []api.Literal) string {
	var l []string
	for _, k := range c {
		text := toldWord(api.Word{Name: k.Name, Args: k.Words})
		if k.Not {
			text = "~" + text
		}
		l = append(l, text)
	}
	return strings.Join(l, " ")
}

func toldList(l [][]api.Literal) string {
	var s []string
	for _, c := range l {
		s = append(s, told(c))
	}
	return strings.Join(s, "; ")
}

func isSmall(name string) bool { return name != "" && 'a' <= name[0] && name[0] <= 'z' }

func isSame(a, b api.Word) bool {
	return a.Name == b.Name && slices.EqualFunc(a.Args, b.Args, isSame)
}

// wordsIn are the words and all that are in them.
func wordsIn(l []api.Word) []api.Word {
	var out []api.Word
	for _, w := range l {
		out = append(out, w)
		out = append(out, wordsIn(w.Args)...)
	}
	return out
}

// nodes are those of a clause: its literals count.
func nodes(c []api.Literal) int {
	n := len(c)
	for _, k := range c {
		n += len(wordsIn(k.Words))
	}
	return n
}

// values are words for some variables.
type values map[string]api.Word

// in puts the values into w, all at once.
func (v values) in(w api.Word) api.Word {
	if value, known := v[w.Name]; known {
		return value
	}
	return api.Word{Name: w.Name, Args: v.inAll(w.Args)}
}

func (v values) inAll(l []api.Word) []api.Word {
	var out []api.Word
	for _, w := range l {
		out = append(out, v.in(w))
	}
	return out
}

func (v values) inClause(c []api.Literal) []api.Literal {
	var out []api.Literal
	for _, k := range c {
		out = append(out, api.Literal{Not: k.Not, Name: k.Name, Words: v.inAll(k.Words)})
	}
	return out
}

// variablesIn has each once, in the order in which they come.
func variablesIn(c []api.Literal) []string {
	var l []string
	for _, k := range c {
		for _, w := range wordsIn(k.Words) {
			if isSmall(w.Name) && !slices.Contains(l, w.Name) {
				l = append(l, w.Name)
			}
		}
	}
	return l
}

// renamed is c with other names: those that name tells of the place of each variable among all.
func renamed(c []api.Literal, name func(at int, was string) string) []api.Literal {
	v := values{}
	for at, was := range variablesIn(c) {
		v[was] = word(name(at, was))
	}
	return v.inClause(c)
}

// isLike tells whether the two are the same but for names of variables, one to one.
func isLike(a, b []api.Literal) bool {
	number := func(at int, _ string) string { return "v" + strconv.Itoa(at) }
	return told(renamed(a, number)) == told(renamed(b, number))
}

// solve is a second way to make words the same, by the rules of Martelli and Montanari: one pair after the other, where a variable's word is put into all that is left and all that is found at once.
func solve(a, b []api.Word) (found values, is bool) {
	found = values{}
	a, b = slices.Clone(a), slices.Clone(b)
	for len(a) > 0 {
		v, w := a[0], b[0]
		a, b = a[1:], b[1:]
		switch {
		case isSame(v, w):
		case isSmall(v.Name):
			if slices.ContainsFunc(wordsIn([]api.Word{w}), func(in api.Word) bool { return in.Name == v.Name }) {
				return nil, false
			}
			one := values{v.Name: w}
			a, b = one.inAll(a), one.inAll(b)
			for name, value := range found {
				found[name] = one.in(value)
			}
			found[v.Name] = w
		case isSmall(w.Name):
			a, b = append(a, w), append(b, v)
		case v.Name != w.Name || len(v.Args) != len(w.Args):
			return nil, false
		default:
			a, b = append(a, v.Args...), append(b, w.Args...)
		}
	}
	return found, true
}

func without(c []api.Literal, at int) []api.Literal {
	return slices.Concat(c[:at], c[at+1:])
}

// comes is a second way to tell what comes of a step that names what is there.
func comes(l [][]api.Literal, steps []api.Infer, s api.Infer) (c []api.Literal, is bool) {
	if s.Kind == 1 {
		return l[s.A], true
	}
	a := steps[s.A].Clause
	b, one, all := a, a[s.I], without(a, s.J%len(a))
	if s.Kind == 2 {
		b = renamed(steps[s.B].Clause, func(_ int, was string) string { return was + "'" })
		all = slices.Concat(without(a, s.I), without(b, s.J))
	}
	other := b[s.J]
	if one.Name != other.Name || len(one.Words) != len(other.Words) || (one.Not == other.Not) != (s.Kind == 3) || s.Kind == 3 && s.I == s.J {
		return nil, false
	}
	v, is := solve(one.Words, other.Words)
	return v.inClause(all), is
}

// byChance is a word of these leaves, at most so deep.
func byChance(chance *rand.Rand, deep int, leaves ...string) api.Word {
	k := chance.Intn(6)
	switch {
	case deep == 0 || k > 2:
		return word(leaves[chance.Intn(len(leaves))])
	case k == 0:
		return word("G", byChance(chance, deep-1, leaves...), byChance(chance, deep-1, leaves...))
	}
	return word("F", byChance(chance, deep-1, leaves...))
}

// someClause has literals of P with a word, Q with two and R with none.
func someClause(chance *rand.Rand, most, deep int, leaves ...string) []api.Literal {
	var c []api.Literal
	for range chance.Intn(most + 1) {
		k := literal("R")
		switch chance.Intn(5) {
		case 0, 1, 2:
			k = literal("P", byChance(chance, deep, leaves...))
		case 3:
			k = literal("Q", byChance(chance, deep, leaves...), byChance(chance, deep, leaves...))
		}
		k.Not = chance.Intn(2) == 0
		c = append(c, k)
	}
	return c
}

func someList(chance *rand.Rand, clauses, most, deep int, leaves ...string) [][]api.Literal {
	var l [][]api.Literal
	for range clauses {
		l = append(l, someClause(chance, most, deep, leaves...))
	}
	return l
}

func sameFault(t *testing.T, what string, got, want api.Fault) {
	t.Helper()
	if got != want {
		t.Errorf("%s: fault %v, want %v", what, got, want)
	}
}

// refuted asks for steps of which Replay says nothing.
func refuted(t *testing.T, what string, l [][]api.Literal) []api.Infer {
	t.Helper()
	steps, f := resolve.Refute(l)
	sameFault(t, what, f, api.Fault{})
	sameFault(t, what+": Replay", resolve.Replay(l, steps), api.Fault{})
	return steps
}

// refused asks for a fault of Refute, and that nothing is told beside it.
func refused(t *testing.T, what string, l [][]api.Literal, want api.Fault) {
	t.Helper()
	steps, f := resolve.Refute(l)
	sameFault(t, what, f, want)
	if len(steps) > 0 {
		t.Errorf("%s: %d steps are answered beside a fault", what, len(steps))
	}
}

func TestHelpers(t *testing.T) {
	l := readList(t, "P(x,F(C)) ~Q; ; ~R(y)")
	if toldList(l) != "P(x,F(C)) ~Q; ; ~R(y)" || nodes(l[0]) != 5 || len(l[1]) != 0 {
		t.Errorf("%s, %d nodes", toldList(l), nodes(l[0]))
	}
	if s := readSteps(t, "1 3: P; 2 4 5 6 7: Q R; 3 1 2 3:"); len(s) != 3 || s[0].A != 3 || s[1].B != 5 || s[1].J != 7 || s[2].I != 2 || s[2].B != 0 || len(s[2].Clause) != 0 {
		t.Errorf("%v", s)
	}
	for text, want := range map[string]bool{
		"P(x,y) Q(x); P(y,x) Q(y)": true,
		"P(x,y) Q(x); P(u,v) Q(v)": false,
		"P(x,y); P(x,x)":           false,
		"P(x,x); P(x,y)":           false,
		"P(C); P(x)":               false,
		"P Q; Q P":                 false,
	} {
		if l := readList(t, text); isLike(l[0], l[1]) != want {
			t.Errorf("%s: %v", text, !want)
		}
	}
	steps := readSteps(t, "1 0: P(x) Q(x); 1 1: ~P(F(x)) R(x)")
	if c, is := comes(nil, steps, readStep(t, "2 0 1 0 0:")); !is || !isLike(c, readClause(t, "Q(F(x)) R(x)")) {
		t.Errorf("%s, %v", told(c), is)
	}
}
