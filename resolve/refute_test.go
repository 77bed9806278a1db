package resolve_test

import (
	"math/rand"
	"slices"
	"strings"
	"testing"

	"sequent/api"
	"sequent/resolve"
)

func TestRefute(t *testing.T) {
	for _, text := range []string{
		"",
		"P; ",
		"P; ; ~P",
		"P(x) ~Q(x); Q(y) R; ; ~R(C)",
		"P; ~P",
		"~P; P",
		"P P P; ~P ~P",
		"P Q; P ~Q; ~P Q; ~P ~Q",
		"P ~P; Q; ~Q P ~P; ~Q R; ~R ~Q",
		"P(C); ~P(C)",
		"P(x); ~P(F(x))",
		"P(x); ~P(C) ~P(D)",
		"P(C); ~P(x) P(F(x)); ~P(F(F(C)))",
		"P(x) P(y); ~P(x) ~P(y)",
		"P(x,F(x)) ~Q(x); Q(C); ~P(y,z)",
		"S(x,x) S(B,x); ~S(x,x) ~S(B,x)",
		"P(x,y) P(y,x); ~P(x,y) ~P(y,x)",
		"~Man(x) Mortal(x); Man(Socrates); ~Mortal(Socrates)",
	} {
		refuted(t, text, readList(t, text))
	}
	for _, text := range []string{
		"P",
		"P; ~Q",
		"P ~P",
		"P ~P; ~P P",
		"P Q; P ~Q; ~P Q",
		"P(C); ~P(D)",
		"P(x); ~Q(x)",
		"P(x); ~P",
		"P(x,x); ~P(y,F(y))",
		"~P(x) P(F(x)); P(C)",
		"~P(x) P(F(x)); ~P(F(F(C)))",
		"P(x) P(F(x)); ~P(x) ~P(F(x))",
		"~Man(x) Mortal(x); Man(Socrates); ~Mortal(x) Man(x)",
	} {
		refused(t, text, readList(t, text), fault(api.ErrNone, 0))
	}
	refused(t, "no clauses", nil, fault(api.ErrNone, 0))
}

// TestAnEmptyClauseIsEnough: wherever it stands, beside whatever.
func TestAnEmptyClauseIsEnough(t *testing.T) {
	chance := rand.New(rand.NewSource(2))
	for n := range 40 {
		l := someList(chance, 40, 5, 2, "x", "y", "C")
		l[n] = nil
		refuted(t, toldList(l), l)
	}
	refuted(t, "forty empty ones", make([][]api.Literal, 40))
}

// rows tells in how many rows of truth values for its predicates, taken to be without words, all clauses of l are true.
func rows(l [][]api.Literal) int {
	var atoms []string
	for _, c := range l {
		for _, k := range c {
			if name := told([]api.Literal{{Name: k.Name, Words: k.Words}}); !slices.Contains(atoms, name) {
				atoms = append(atoms, name)
			}
		}
	}
	n := 0
	for row := range 1 << len(atoms) {
		isTrue := func(k api.Literal) bool {
			at := slices.Index(atoms, told([]api.Literal{{Name: k.Name, Words: k.Words}}))
			return (row>>at&1 == 1) != k.Not
		}
		if !slices.ContainsFunc(l, func(c []api.Literal) bool { return !slices.ContainsFunc(c, isTrue) }) {
			n++
		}
	}
	return n
}

// isDecided asks Refute of a list without variables, and tells whether there were steps.
func isDecided(t *testing.T, l [][]api.Literal) bool {
	t.Helper()
	if rows(l) > 0 {
		refused(t, toldList(l), l, fault(api.ErrNone, 0))
		return false
	}
	refuted(t, toldList(l), l)
	return true
}

// literalsOf are the literals with these names, and their opposites.
func literalsOf(t *testing.T, text string) []api.Literal {
	t.Helper()
	var l []api.Literal
	for _, k := range readClause(t, text) {
		l = append(l, k, opposite(k))
	}
	return l
}

// clausesOf are those of at most so many of the literals, whose places rise; once, if no place may be taken twice.
func clausesOf(literals []api.Literal, most int, once bool) [][]api.Literal {
	all := [][]api.Literal{nil}
	if most == 0 {
		return all
	}
	for at := range literals {
		from := at
		if once {
			from++
		}
		for _, c := range clausesOf(literals[from:], most-1, once) {
			all = append(all, append([]api.Literal{literals[at]}, c...))
		}
	}
	return all
}

// eachList goes through all lists of so many of the clauses, whose places rise.
func eachList(clauses [][]api.Literal, many int, visit func(l [][]api.Literal)) {
	var grow func(l [][]api.Literal, from int)
	grow = func(l [][]api.Literal, from int) {
		if len(l) == many {
			visit(l)
			return
		}
		for at := from; at < len(clauses); at++ {
			grow(append(l[:len(l):len(l)], clauses[at]), at+1)
		}
	}
	grow(nil, 0)
}

// hardClauses have no literal twice, and none beside its opposite.
func hardClauses(t *testing.T, text string) [][]api.Literal {
	t.Helper()
	return slices.DeleteFunc(clausesOf(literalsOf(t, text), 3, true)[1:], func(c []api.Literal) bool {
		return slices.ContainsFunc(c, func(k api.Literal) bool {
			return slices.ContainsFunc(c, func(other api.Literal) bool { return other.Name == k.Name && other.Not != k.Not })
		})
	})
}

// TestAllSmallLists: of few names, and of as many clauses as can be gone through in good time.
func TestAllSmallLists(t *testing.T) {
	for what, k := range map[string]struct {
		clauses [][]api.Literal
		most    int
	}{
		"one name":                           {clausesOf(literalsOf(t, "P"), 3, false)[1:], 6},
		"two names, two literals":            {clausesOf(literalsOf(t, "P Q"), 2, true)[1:], 6},
		"two names, the same literals twice": {clausesOf(literalsOf(t, "P Q"), 2, false)[1:], 4},
		"two names":                          {clausesOf(literalsOf(t, "P Q"), 3, false)[1:], 3},
		"three names, a literal":             {clausesOf(literalsOf(t, "P Q R"), 1, true)[1:], 6},
		"three names":                        {hardClauses(t, "P Q R"), 4},
		"four names, two literals":           {clausesOf(literalsOf(t, "P Q R S"), 2, true)[1:], 3},
		"four names":                         {hardClauses(t, "P Q R S"), 3},
	} {
		found := 0
		for n := range k.most + 1 {
			eachList(k.clauses, n, func(l [][]api.Literal) {
				if isDecided(t, l) {
					found++
				}
			})
		}
		if found == 0 {
			t.Errorf("%s: none is refuted", what)
		}
	}
}

// TestSixClausesByChance: with words, in many orders, and with literals that stand twice.
func TestSixClausesByChance(t *testing.T) {
	chance := rand.New(rand.NewSource(3))
	for _, text := range []string{"P Q R S", "P(C) P(D) P(F(C)) P(F(D))", "P P(C) P(C,C) P(P(C))", "P(A) Q R(G(A,B),F(F(A))) S"} {
		clauses, found := hardClauses(t, text), 0
		for range 10000 {
			var l [][]api.Literal
			for range 6 {
				c := slices.Clone(clauses[chance.Intn(len(clauses))])
				if len(c) < 3 && chance.Intn(4) == 0 {
					c = append(c, c[0])
				}
				chance.Shuffle(len(c), func(i, j int) { c[i], c[j] = c[j], c[i] })
				l = append(l, c)
			}
			if isDecided(t, l) {
				found++
			}
		}
		if found < 200 {
			t.Errorf("%s: only %d are refuted", text, found)
		}
	}
}

// TestHardSmallLists: those in which each clause speaks against few rows, so that all six are needed.
func TestHardSmallLists(t *testing.T) {
	for _, text := range []string{
		"P Q; ~P Q; P ~Q; ~P ~Q R; ~P ~R; ~Q ~R",
		"P Q R; ~P Q R; ~Q R; ~R S; ~R ~S; P",
		"P Q R; P Q ~R; P ~Q S; P ~Q ~S; ~P R; ~P ~R",
		"P Q R; ~P S; ~Q S; ~R S; ~S P; ~S ~P",
		"P Q R; ~P Q R; P ~Q R; ~P ~Q R; ~R S; ~S",
		"P ~Q; Q ~R; R ~S; S ~P; P Q; ~R ~S",
		"P; ~P Q; ~P ~Q R; ~Q ~R S; ~S ~R ~P; Q",
	} {
		if !isDecided(t, readList(t, text)) {
			t.Errorf("%s: some row makes all true", text)
		}
	}
}

// structure has so many things, and values by chance for all functions and predicates.
type structure struct {
	things int
	chance *rand.Rand
	funs   map[string]int
	preds  map[string]bool
}

func newStructure(chance *rand.Rand) structure {
	return structure{1 + chance.Intn(3), chance, map[string]int{}, map[string]bool{}}
}

func (s structure) key(name string, l []api.Word, v map[string]int) string {
	for _, w := range l {
		name += string(rune('0' + s.value(w, v)))
	}
	return name
}

func (s structure) value(w api.Word, v map[string]int) int {
	if isSmall(w.Name) {
		return v[w.Name]
	}
	k := s.key(w.Name, w.Args, v)
	if _, known := s.funs[k]; !known {
		s.funs[k] = s.chance.Intn(s.things)
	}
	return s.funs[k]
}

func (s structure) isTrue(k api.Literal, v map[string]int) bool {
	at := s.key(k.Name, k.Words, v)
	if _, known := s.preds[at]; !known {
		s.preds[at] = s.chance.Intn(2) == 0
	}
	return s.preds[at] != k.Not
}

// makesTrue tells whether a clause is true for all values of the variables.
func (s structure) makesTrue(c []api.Literal, variables []string, v map[string]int) bool {
	if len(variables) == 0 {
		return slices.ContainsFunc(c, func(k api.Literal) bool { return s.isTrue(k, v) })
	}
	for thing := range s.things {
		v[variables[0]] = thing
		if !s.makesTrue(c, variables[1:], v) {
			return false
		}
	}
	return true
}

func (s structure) makesAllTrue(l [][]api.Literal) bool {
	return !slices.ContainsFunc(l, func(c []api.Literal) bool { return !s.makesTrue(c, variablesIn(c), map[string]int{}) })
}

// TestNothingThatCanBeTrueIsRefuted: of lists by chance, some are true in a structure and some are refuted, none is both; and Replay says of all steps that are told that they are right.
func TestNothingThatCanBeTrueIsRefuted(t *testing.T) {
	chance, found, modelled := rand.New(rand.NewSource(4)), 0, 0
	for range 400 {
		l := someList(chance, 2+chance.Intn(10), 3, 1+chance.Intn(2), "x", "y", "z", "C", "D")
		l = slices.DeleteFunc(l, func(c []api.Literal) bool { return len(c) == 0 })
		isTrue := false
		for range 30 {
			isTrue = isTrue || newStructure(chance).makesAllTrue(l)
		}
		steps, f := resolve.Refute(l)
		switch {
		case isTrue:
			modelled++
			sameFault(t, toldList(l), f, fault(api.ErrNone, 0))
		case f == api.Fault{}:
			found++
			sameFault(t, toldList(l), resolve.Replay(l, steps), api.Fault{})
		}
		if f != (api.Fault{}) && len(steps) > 0 {
			t.Errorf("%s: steps beside a fault", toldList(l))
		}
	}
	if found < 80 || modelled < 200 {
		t.Errorf("%d are refuted, %d can be true", found, modelled)
	}
}

// TestInstancesAreRefuted: clauses whose words without variables are refuted are refuted themselves, as long as they are as small as these.
func TestInstancesAreRefuted(t *testing.T) {
	chance, found := rand.New(rand.NewSource(5)), 0
	clauses := hardClauses(t, "P(C) P(D) Q(C,D) R")
	lift := strings.NewReplacer("(C)", "(x)", "(C,D)", "(y,x)")
	for range 20000 {
		var l, lifted [][]api.Literal
		for range 6 {
			l = append(l, clauses[chance.Intn(len(clauses))])
			lifted = append(lifted, l[len(l)-1])
			if chance.Intn(2) == 0 {
				lifted[len(l)-1] = readClause(t, lift.Replace(told(l[len(l)-1])))
			}
		}
		if rows(l) == 0 && isMadeOf(l, lifted) {
			found++
			refuted(t, toldList(lifted), lifted)
		}
	}
	if found < 200 {
		t.Errorf("only %d are refuted", found)
	}
}

// isMadeOf tells whether each clause of l comes of the one of other by words for its variables.
func isMadeOf(l, other [][]api.Literal) bool {
	v := values{"x": word("C"), "y": word("C")}
	for at := range l {
		made := v.inClause(other[at])
		v["x"] = word("D")
		again := v.inClause(other[at])
		v["x"] = word("C")
		if told(made) != told(l[at]) && told(again) != told(l[at]) {
			return false
		}
	}
	return true
}

// TestWellKnownOnes: what such clauses say is found not to be so.
func TestWellKnownOnes(t *testing.T) {
	for what, text := range map[string]string{
		"a left inverse is a right one":    "P(E,x,x); P(I(x),x,E); ~P(x,y,u) ~P(y,z,v) ~P(x,v,w) P(u,z,w); ~P(x,y,u) ~P(y,z,v) ~P(u,z,w) P(x,v,w); ~P(A,E,A)",
		"squares of one make it commute":   "P(E,x,x); P(x,E,x); P(x,x,E); ~P(x,y,u) ~P(y,z,v) ~P(x,v,w) P(u,z,w); ~P(x,y,u) ~P(y,z,v) ~P(u,z,w) P(x,v,w); P(A,B,C); ~P(B,A,C)",
		"two relations that have all":      "~P(x,y) ~P(y,z) P(x,z); ~Q(x,y) ~Q(y,z) Q(x,z); ~Q(x,y) Q(y,x); P(x,y) Q(x,y); ~P(A,B); ~Q(C,D)",
		"three pigeons, two holes":         "Aa Ab; Ba Bb; Ca Cb; ~Aa ~Ba; ~Aa ~Ca; ~Ba ~Ca; ~Ab ~Bb; ~Ab ~Cb; ~Bb ~Cb",
		"what follows from itself":         "T(I(x,I(y,x))); T(I(I(x,I(y,z)),I(I(x,y),I(x,z)))); ~T(x) ~T(I(x,y)) T(y); ~T(I(A,A))",
		"one who eats what eats grain":     "~Wolf(x) Animal(x); ~Fox(x) Animal(x); ~Bird(x) Animal(x); ~Cat(x) Animal(x); ~Snail(x) Animal(x); Wolf(W); Fox(F); Bird(B); Cat(C); Snail(S); Grain(G); ~Grain(x) Plant(x); ~Animal(x) ~Plant(y) ~Animal(z) ~Plant(v) Eats(x,y) ~Less(z,x) ~Eats(z,v) Eats(x,z); ~Cat(x) ~Bird(y) Less(x,y); ~Snail(x) ~Bird(y) Less(x,y); ~Bird(x) ~Fox(y) Less(x,y); ~Fox(x) ~Wolf(y) Less(x,y); ~Wolf(x) ~Fox(y) ~Eats(x,y); ~Wolf(x) ~Grain(y) ~Eats(x,y); ~Bird(x) ~Cat(y) Eats(x,y); ~Bird(x) ~Snail(y) ~Eats(x,y); ~Cat(x) Plant(H(x)); ~Cat(x) Eats(x,H(x)); ~Snail(x) Plant(J(x)); ~Snail(x) Eats(x,J(x)); ~Animal(x) ~Animal(y) ~Grain(z) ~Eats(x,y) ~Eats(y,z)",
		"all four of two, by other orders": "P(x) Q(x); P(x) ~Q(x); ~P(C) Q(y); ~P(y) ~Q(C)",
	} {
		refuted(t, what, readList(t, text))
	}
}
