package meaning_test

import (
	"math/rand"
	"slices"
	"strconv"
	"testing"

	"sequent/api"
	"sequent/first"
)

func fault(code, at int) api.Fault { return api.Fault{Code: code, At: at} }

func word(name string, args ...api.Word) api.Word { return api.Word{Name: name, Args: args} }

func words(names ...string) []api.Word {
	var l []api.Word
	for _, n := range names {
		l = append(l, word(n))
	}
	return l
}

func node(kind int, kids ...api.Expr) api.Expr { return api.Expr{Kind: kind, Kids: kids} }

func pred(name string, l ...api.Word) api.Expr {
	return api.Expr{Kind: api.EPred, Name: name, Words: l}
}

func same(a, b api.Word) api.Expr { return api.Expr{Kind: api.ESame, Words: []api.Word{a, b}} }

func not(e api.Expr) api.Expr { return node(api.ENot, e) }

func and(a, b api.Expr) api.Expr { return node(api.EAnd, a, b) }

func or(a, b api.Expr) api.Expr { return node(api.EOr, a, b) }

func then(a, b api.Expr) api.Expr { return node(api.EThen, a, b) }

func all(name string, e api.Expr) api.Expr {
	return api.Expr{Kind: api.EAll, Name: name, Kids: []api.Expr{e}}
}

func some(name string, e api.Expr) api.Expr {
	return api.Expr{Kind: api.ESome, Name: name, Kids: []api.Expr{e}}
}

// nots is e below so many ENot.
func nots(n int, e api.Expr) api.Expr {
	for range n {
		e = not(e)
	}
	return e
}

// nested is w below so many F.
func nested(n int, w api.Word) api.Word {
	for range n {
		w = word("F", w)
	}
	return w
}

// below is e below quantifiers of the variables, the first one outermost; the kinds come in turn.
func below(names []string, e api.Expr, kinds ...int) api.Expr {
	for i, name := range slices.Backward(names) {
		e = api.Expr{Kind: kinds[i%len(kinds)], Name: name, Kids: []api.Expr{e}}
	}
	return e
}

// letters are so many variables: a, b, and so on.
func letters(n int) []string {
	var l []string
	for i := range n {
		name := string(rune('a' + i%26))
		if i >= 26 {
			name += string(rune('a' + i/26))
		}
		l = append(l, name)
	}
	return l
}

func read(t *testing.T, text string) api.Expr {
	t.Helper()
	e, f := first.Parse(text)
	if f != (api.Fault{}) {
		t.Fatalf("Parse(%q): %v", text, f)
	}
	return e
}

func sameFault(t *testing.T, what string, got, want api.Fault) {
	t.Helper()
	if got != want {
		t.Errorf("%s: fault %v, want %v", what, got, want)
	}
}

func isZero(e api.Expr) bool {
	return e.Kind == 0 && e.Name == "" && len(e.Words) == 0 && len(e.Kids) == 0
}

// told writes all there is in an expression, right or wrong, of whatever size.
func told(e api.Expr) string {
	s := strconv.Itoa(e.Kind) + e.Name + "<" + toldWords(e.Words) + ">["
	for _, k := range e.Kids {
		s += told(k)
	}
	return s + "]"
}

func toldWords(l []api.Word) string {
	s := ""
	for _, w := range l {
		s += w.Name + "{" + toldWords(w.Args) + "}"
	}
	return s
}

// text is how Print writes e, if it is not too large.
func text(e api.Expr) string {
	s, f := first.Print(e)
	if f != (api.Fault{}) {
		return told(e)
	}
	return s
}

func isQuantifier(e api.Expr) bool { return e.Kind == api.EAll || e.Kind == api.ESome }

// exprs are e and all that are in it.
func exprs(e api.Expr) []api.Expr {
	l := []api.Expr{e}
	for _, k := range e.Kids {
		l = append(l, exprs(k)...)
	}
	return l
}

// wordsIn are those of e and all that are in them.
func wordsIn(e api.Expr) []api.Word {
	var l []api.Word
	for _, x := range exprs(e) {
		for _, w := range x.Words {
			l = append(l, wordsOf(w)...)
		}
	}
	return l
}

func wordsOf(w api.Word) []api.Word {
	l := []api.Word{w}
	for _, a := range w.Args {
		l = append(l, wordsOf(a)...)
	}
	return l
}

func count(e api.Expr) int { return len(exprs(e)) + len(wordsIn(e)) }

func quantifiersIn(e api.Expr) int {
	n := 0
	for _, x := range exprs(e) {
		if isQuantifier(x) {
			n++
		}
	}
	return n
}

// deepest is how many quantifiers stand in one another.
func deepest(e api.Expr) int {
	n := 0
	for _, k := range e.Kids {
		n = max(n, deepest(k))
	}
	if isQuantifier(e) {
		n++
	}
	return n
}

func isSmall(name string) bool { return 'a' <= name[0] && name[0] <= 'z' }

// freeIn reckons the free variables by sets: what the Kids have, without what is bound.
func freeIn(e api.Expr) map[string]bool {
	free := map[string]bool{}
	for _, w := range e.Words {
		for _, v := range wordsOf(w) {
			if isSmall(v.Name) {
				free[v.Name] = true
			}
		}
	}
	for _, k := range e.Kids {
		for name := range freeIn(k) {
			free[name] = true
		}
	}
	if isQuantifier(e) {
		delete(free, e.Name)
	}
	return free
}

// symbol is a big name as a function or a predicate of so many places.
type symbol struct {
	name   string
	places int
	isFun  bool
}

func symbolsIn(e api.Expr) map[symbol]bool {
	l := map[symbol]bool{}
	for _, x := range exprs(e) {
		if x.Kind == api.EPred {
			l[symbol{x.Name, len(x.Words), false}] = true
		}
	}
	for _, w := range wordsIn(e) {
		if !isSmall(w.Name) {
			l[symbol{w.Name, len(w.Args), true}] = true
		}
	}
	return l
}

func power(n, k int) int {
	p := 1
	for range k {
		p *= n
	}
	return p
}

// withMeanings goes through s with all meanings for the symbols: as for digits of a number, the first place that can be higher becomes so, and those ahead of it start again.
func withMeanings(s api.Structure, symbols []symbol) func(yield func(s api.Structure) bool) {
	return func(yield func(s api.Structure) bool) {
		if len(symbols) == 0 {
			yield(s)
			return
		}
		head, places := symbols[0], power(s.N, symbols[0].places)
		base := 2
		if head.isFun {
			base = s.N
		}
		for digits := make([]int, places); ; {
			next := s
			if head.isFun {
				next.Funs = append(slices.Clone(s.Funs), api.Fun{Name: head.name, Arity: head.places, Table: slices.Clone(digits)})
			} else {
				next.Preds = append(slices.Clone(s.Preds), api.Pred{Name: head.name, Arity: head.places, Bits: bits(digits)})
			}
			for whole := range withMeanings(next, symbols[1:]) {
				if !yield(whole) {
					return
				}
			}
			at := slices.IndexFunc(digits, func(d int) bool { return d < base-1 })
			if at < 0 {
				return
			}
			clear(digits[:at])
			digits[at]++
		}
	}
}

func bits(digits []int) []bool {
	l := make([]bool, len(digits))
	for i, d := range digits {
		l[i] = d == 1
	}
	return l
}

// manyMeanings is how many withMeanings goes through, or most, if they are more.
func manyMeanings(n int, symbols []symbol, most int) int {
	many := 1
	for _, s := range symbols {
		base := 2
		if s.isFun {
			base = n
		}
		for range power(n, s.places) {
			many = min(most, many*base)
		}
	}
	return many
}

// meanings are by chance.
func meanings(chance *rand.Rand, n int, symbols ...symbol) api.Structure {
	s := api.Structure{N: n}
	for _, x := range symbols {
		places := power(n, x.places)
		if x.isFun {
			f := api.Fun{Name: x.name, Arity: x.places}
			for range places {
				f.Table = append(f.Table, chance.Intn(n))
			}
			s.Funs = append(s.Funs, f)
			continue
		}
		p := api.Pred{Name: x.name, Arity: x.places}
		for range places {
			p.Bits = append(p.Bits, chance.Intn(2) == 1)
		}
		s.Preds = append(s.Preds, p)
	}
	return s
}

// vocabulary is what byChance writes with.
func vocabulary() []symbol {
	return []symbol{{"C", 0, true}, {"F", 1, true}, {"G", 2, true}, {"H", 3, true}, {"Q", 0, false}, {"P", 1, false}, {"R", 2, false}, {"T", 3, false}}
}

// byChance is a right expression of these variables, at most so deep.
func byChance(chance *rand.Rand, deep int, names ...string) api.Expr {
	name := names[chance.Intn(len(names))]
	w := func() api.Word { return wordByChance(chance, 2, names...) }
	kid := func() api.Expr { return byChance(chance, deep-1, names...) }
	kind := api.ENot + chance.Intn(6)
	if deep == 0 || chance.Intn(8) == 0 {
		kind = api.EPred + chance.Intn(4)
	}
	switch kind {
	case api.EPred:
		return [...]api.Expr{pred("Q"), pred("P", w()), pred("R", w(), w()), pred("T", w(), w(), w())}[chance.Intn(4)]
	case api.ESame:
		return same(w(), w())
	case api.ETrue, api.EFalse:
		if chance.Intn(3) > 0 {
			return pred("R", w(), w())
		}
		return node(kind)
	case api.ENot:
		return not(kid())
	case api.EAll:
		return all(name, kid())
	case api.ESome:
		return some(name, kid())
	}
	return node(kind, kid(), kid())
}

func wordByChance(chance *rand.Rand, deep int, names ...string) api.Word {
	inner := func() api.Word { return wordByChance(chance, deep-1, names...) }
	k := chance.Intn(12)
	switch {
	case k == 0:
		return word("C")
	case k == 1 && deep > 0:
		return word("F", inner())
	case k == 2 && deep > 0:
		return word("G", inner(), inner())
	case k == 3 && deep > 0:
		return word("H", inner(), inner(), inner())
	}
	return word(names[chance.Intn(len(names))])
}

// closed is e with quantifiers of its free variables ahead.
func closed(chance *rand.Rand, e api.Expr) api.Expr {
	var names []string
	for name := range freeIn(e) {
		names = append(names, name)
	}
	slices.Sort(names)
	for _, name := range names {
		e = api.Expr{Kind: api.EAll + chance.Intn(2), Name: name, Kids: []api.Expr{e}}
	}
	return e
}

// small tells all expressions with so many nodes, whose leaves are such.
func small(nodes int, leaves ...api.Expr) []api.Expr {
	if nodes < 1 {
		return nil
	}
	var l []api.Expr
	for _, e := range leaves {
		if count(e) == nodes {
			l = append(l, e)
		}
	}
	for _, e := range small(nodes-1, leaves...) {
		l = append(l, not(e), all("x", e), some("x", e), all("y", e), some("y", e))
	}
	for left := 1; left < nodes-1; left++ {
		for _, a := range small(left, leaves...) {
			for _, b := range small(nodes-1-left, leaves...) {
				l = append(l, and(a, b), or(a, b), then(a, b))
			}
		}
	}
	return l
}

// column is a second reckoning of Value: at once for all rows of values of the names, whose digits are the number of the row. It takes e to have no other variables.
func column(s api.Structure, e api.Expr, names []string) []bool {
	rows := power(s.N, len(names))
	var kids [][]bool
	for _, k := range e.Kids {
		kids = append(kids, column(s, k, names))
	}
	var things [][]int
	for _, w := range e.Words {
		things = append(things, thingColumn(s, w, names))
	}
	l := make([]bool, rows)
	for row := range l {
		switch e.Kind {
		case api.EPred:
			i := slices.IndexFunc(s.Preds, func(p api.Pred) bool { return p.Name == e.Name })
			l[row] = s.Preds[i].Bits[placeIn(s.N, things, row)]
		case api.ESame:
			l[row] = things[0][row] == things[1][row]
		case api.ETrue:
			l[row] = true
		case api.ENot:
			l[row] = !kids[0][row]
		case api.EAnd:
			l[row] = kids[0][row] && kids[1][row]
		case api.EOr:
			l[row] = kids[0][row] || kids[1][row]
		case api.EThen:
			l[row] = kids[1][row] || !kids[0][row]
		case api.EAll, api.ESome:
			step := power(s.N, slices.Index(names, e.Name))
			from, trues := row-row/step%s.N*step, 0
			for thing := range s.N {
				if kids[0][from+thing*step] {
					trues++
				}
			}
			l[row] = trues == s.N || e.Kind == api.ESome && trues > 0
		}
	}
	return l
}

func thingColumn(s api.Structure, w api.Word, names []string) []int {
	var args [][]int
	for _, a := range w.Args {
		args = append(args, thingColumn(s, a, names))
	}
	l := make([]int, power(s.N, len(names)))
	at := slices.Index(names, w.Name)
	for row := range l {
		if at >= 0 {
			l[row] = row / power(s.N, at) % s.N
			continue
		}
		i := slices.IndexFunc(s.Funs, func(f api.Fun) bool { return f.Name == w.Name })
		l[row] = s.Funs[i].Table[placeIn(s.N, args, row)]
	}
	return l
}

func placeIn(n int, things [][]int, row int) int {
	at := 0
	for _, l := range slices.Backward(things) {
		at = at*n + l[row]
	}
	return at
}

// given is what a variable is, ahead of what those around it are.
type given struct {
	name  string
	value int
	outer *given
}

// isTrue is a third reckoning, without limits: e in s, one thing after the other, with a new list of what is given for each of them.
func isTrue(s *api.Structure, e *api.Expr, g *given) bool {
	switch e.Kind {
	case api.EPred:
		i := slices.IndexFunc(s.Preds, func(p api.Pred) bool { return p.Name == e.Name })
		return s.Preds[i].Bits[placeOf(s, e.Words, g)]
	case api.ESame:
		return thingOf(s, &e.Words[0], g) == thingOf(s, &e.Words[1], g)
	case api.ETrue, api.EFalse:
		return e.Kind == api.ETrue
	case api.ENot:
		return !isTrue(s, &e.Kids[0], g)
	case api.EAll, api.ESome:
		for thing := range s.N {
			if is := isTrue(s, &e.Kids[0], &given{e.Name, thing, g}); is == (e.Kind == api.ESome) {
				return is
			}
		}
		return e.Kind == api.EAll
	}
	a := isTrue(s, &e.Kids[0], g)
	switch {
	case e.Kind == api.EAnd && !a:
		return false
	case e.Kind == api.EOr && a, e.Kind == api.EThen && !a:
		return true
	}
	return isTrue(s, &e.Kids[1], g)
}

func thingOf(s *api.Structure, w *api.Word, g *given) int {
	for ; g != nil && isSmall(w.Name); g = g.outer {
		if g.name == w.Name {
			return g.value
		}
	}
	i := slices.IndexFunc(s.Funs, func(f api.Fun) bool { return f.Name == w.Name })
	return s.Funs[i].Table[placeOf(s, w.Args, g)]
}

func placeOf(s *api.Structure, l []api.Word, g *given) int {
	at := 0
	for i := range slices.Backward(l) {
		at = at*s.N + thingOf(s, &l[i], g)
	}
	return at
}

// TestHelpers: the two reckonings are the same, wherever both can be.
func TestHelpers(t *testing.T) {
	chance := rand.New(rand.NewSource(1))
	trues := 0
	for range 3000 {
		e, s := byChance(chance, 4, "x", "y"), meanings(chance, 1+chance.Intn(3), vocabulary()...)
		for row, want := range column(s, e, []string{"x", "y"}) {
			g := &given{"x", row % s.N, &given{"y", row / s.N, nil}}
			if got := isTrue(&s, &e, g); got != want {
				t.Fatalf("%s in %v, row %d: %v, want %v", text(e), s, row, got, want)
			}
			if want {
				trues++
			}
		}
	}
	if trues < 1000 {
		t.Errorf("only %d are true", trues)
	}
	seen := 0
	for range withMeanings(api.Structure{N: 2}, []symbol{{"P", 1, false}, {"C", 0, true}, {"F", 1, true}}) {
		seen++
	}
	if seen != 4*2*4 || manyMeanings(2, []symbol{{"P", 1, false}, {"C", 0, true}, {"F", 1, true}}, 1000) != seen {
		t.Errorf("%d structures", seen)
	}
}
