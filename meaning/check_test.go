package meaning_test

import (
	"math/rand"
	"slices"
	"strconv"
	"strings"
	"testing"

	"sequent/api"
	"sequent/meaning"
)

func fun(name string, arity int, table ...int) api.Fun {
	return api.Fun{Name: name, Arity: arity, Table: table}
}

func predicate(name string, arity int, digits ...int) api.Pred {
	return api.Pred{Name: name, Arity: arity, Bits: bits(digits)}
}

// zeros are as many as a function of so many places has values.
func zeros(n, arity int) []int { return make([]int, power(n, arity)) }

func funs(n int, names ...string) []api.Fun {
	var l []api.Fun
	for i, name := range names {
		l = append(l, fun(name, i%4, zeros(n, i%4)...))
	}
	return l
}

func preds(n int, names ...string) []api.Pred {
	var l []api.Pred
	for i, name := range names {
		l = append(l, predicate(name, i%4, zeros(n, i%4)...))
	}
	return l
}

// tenNames are big names; the longest is the last.
func tenNames() []string {
	return []string{"A", "Z", "AA", "Aa", "Ab", "AB", "Azazazaz", "AZAZAZAZ", "ABCDEFGH", "Abcdefgh"}
}

// badNames are no big names.
func badNames() []string {
	return []string{"", "p", "pQ", "P1", "1P", "P Q", " P", "P ", "P\n", "\x00", "@", "[", "P[", "P@", "P`", "P{", "É", "Pé", "\xff", "P(", "ABCDEFGHI", "Abcdefghi", strings.Repeat("A", 1<<20)}
}

func short(s string) string { return strconv.Quote(s[:min(len(s), 20)]) }

func TestCheckSaysNothingOfStructures(t *testing.T) {
	for n := 1; n <= 8; n++ {
		for what, s := range map[string]api.Structure{
			"nothing":           {N: n},
			"empty lists":       {N: n, Funs: []api.Fun{}, Preds: []api.Pred{}},
			"ten functions":     {N: n, Funs: funs(n, tenNames()...)},
			"ten predicates":    {N: n, Preds: preds(n, tenNames()...)},
			"ten of both":       {N: n, Funs: funs(n, tenNames()...), Preds: preds(n, tenNames()...)},
			"the highest value": {N: n, Funs: []api.Fun{fun("C", 0, n-1), fun("F", 1, slices.Repeat([]int{n - 1}, n)...)}},
		} {
			sameFault(t, what+", "+strconv.Itoa(n), meaning.Check(s), api.Fault{})
		}
	}
}

func TestCheckFaults(t *testing.T) {
	const lowest, highest = -1 << 63, 1<<63 - 1
	eleven := append(tenNames(), "K")
	bad := []api.Fun{fun("", -1, 9)}
	for _, c := range []struct {
		what string
		s    api.Structure
		want api.Fault
	}{
		{"zero structure", api.Structure{}, fault(api.ErrMany, 0)},
		{"no thing", api.Structure{N: 0, Funs: bad}, fault(api.ErrMany, 0)},
		{"below 0", api.Structure{N: -1}, fault(api.ErrMany, 0)},
		{"far below 0", api.Structure{N: lowest}, fault(api.ErrMany, 0)},
		{"nine things", api.Structure{N: 9, Funs: bad}, fault(api.ErrMany, 0)},
		{"very many things", api.Structure{N: highest}, fault(api.ErrMany, 0)},
		{"eleven functions", api.Structure{N: 2, Funs: funs(2, eleven...)}, fault(api.ErrMany, 0)},
		{"eleven predicates", api.Structure{N: 2, Preds: preds(2, eleven...)}, fault(api.ErrMany, 0)},
		{"very many", api.Structure{N: 2, Funs: make([]api.Fun, 1<<20)}, fault(api.ErrMany, 0)},
		{"eleven predicates ahead of a function's fault", api.Structure{N: 2, Funs: bad, Preds: preds(2, eleven...)}, fault(api.ErrMany, 0)},
		{"eleven functions ahead of a name", api.Structure{N: 2, Funs: make([]api.Fun, 11)}, fault(api.ErrMany, 0)},

		{"name ahead of places", api.Structure{N: 2, Funs: bad}, fault(api.ErrName, 0)},
		{"a name twice ahead of places", api.Structure{N: 2, Funs: []api.Fun{fun("C", 0, 1), fun("C", 7, 9)}}, fault(api.ErrName, 1)},
		{"places ahead of how many", api.Structure{N: 2, Funs: []api.Fun{fun("C", 4, 9)}}, fault(api.ErrRange, 0)},
		{"how many ahead of values", api.Structure{N: 2, Funs: []api.Fun{fun("C", 0, 9, 9)}}, fault(api.ErrSize, 0)},
		{"a function's values ahead of the next one", api.Structure{N: 2, Funs: []api.Fun{fun("C", 0, 2), fun("", 0, 0)}}, fault(api.ErrForm, 0)},
		{"functions ahead of predicates", api.Structure{N: 2, Funs: []api.Fun{fun("C", 0, 1), fun("D", 0, 2)}, Preds: preds(2, "")}, fault(api.ErrForm, 1)},
		{"a predicate behind no function", api.Structure{N: 2, Preds: preds(2, "Q", "q")}, fault(api.ErrName, 1)},
		{"a predicate behind three functions", api.Structure{N: 2, Funs: funs(2, "C", "F", "G"), Preds: preds(2, "Q", "P", "q")}, fault(api.ErrName, 5)},
		{"the last of ten and ten", api.Structure{N: 8, Funs: funs(8, tenNames()...), Preds: append(preds(8, tenNames()[:9]...), predicate("K", 1))}, fault(api.ErrSize, 19)},
		{"a function's name twice, far apart", api.Structure{N: 3, Funs: funs(3, append(tenNames()[:9], "A")...)}, fault(api.ErrName, 9)},
		{"a predicate's name twice", api.Structure{N: 3, Funs: funs(3, "C"), Preds: preds(3, "A", "B", "A")}, fault(api.ErrName, 3)},
		{"a name in both lists, and twice in one", api.Structure{N: 3, Funs: funs(3, "A"), Preds: preds(3, "A", "A")}, fault(api.ErrName, 2)},
		{"very many values", api.Structure{N: 3, Funs: []api.Fun{fun("F", 1, make([]int, 1<<20)...)}}, fault(api.ErrSize, 0)},
		{"very many bits", api.Structure{N: 3, Preds: []api.Pred{{Name: "F", Arity: 1, Bits: make([]bool, 1<<20)}}}, fault(api.ErrSize, 0)},
	} {
		sameFault(t, c.what, meaning.Check(c.s), c.want)
	}
}

// TestCheckOfNames: each name that is none, as a function's and as a predicate's; one in both lists is none of these.
func TestCheckOfNames(t *testing.T) {
	for _, name := range badNames() {
		s := api.Structure{N: 2, Funs: append(funs(2, "C"), fun(name, 0, 0))}
		sameFault(t, "function "+short(name), meaning.Check(s), fault(api.ErrName, 1))
		s = api.Structure{N: 2, Funs: funs(2, "C"), Preds: append(preds(2, "Q"), predicate(name, 0, 0))}
		sameFault(t, "predicate "+short(name), meaning.Check(s), fault(api.ErrName, 2))
	}
	s := api.Structure{N: 2, Funs: funs(2, "P", "C"), Preds: preds(2, "C", "P")}
	sameFault(t, "in both lists", meaning.Check(s), api.Fault{})
}

func TestCheckOfPlaces(t *testing.T) {
	for _, arity := range []int{-1 << 63, -2, -1, 4, 5, 64, 1 << 62, 1<<63 - 1} {
		for _, many := range []int{0, 1, 16} {
			s := api.Structure{N: 2, Funs: append(funs(2, "C"), fun("F", arity, make([]int, many)...)), Preds: preds(2, "q")}
			sameFault(t, "function of "+strconv.Itoa(arity), meaning.Check(s), fault(api.ErrRange, 1))
			s = api.Structure{N: 2, Funs: funs(2, "C"), Preds: append(preds(2, "Q"), predicate("P", arity, make([]int, many)...))}
			sameFault(t, "predicate of "+strconv.Itoa(arity), meaning.Check(s), fault(api.ErrRange, 2))
		}
	}
	for n := 1; n <= 8; n++ {
		for arity := range 4 {
			for _, many := range []int{0, 1, 2, n, n * n, n * n * n, n * n * n * n, power(n, arity) - 1, power(n, arity) + 1} {
				want := fault(api.ErrSize, 0)
				if many == power(n, arity) {
					want = api.Fault{}
				}
				what := strconv.Itoa(many) + " of " + strconv.Itoa(arity) + " places, " + strconv.Itoa(n)
				sameFault(t, "function: "+what, meaning.Check(api.Structure{N: n, Funs: []api.Fun{fun("F", arity, make([]int, many)...)}}), want)
				sameFault(t, "predicate: "+what, meaning.Check(api.Structure{N: n, Preds: []api.Pred{predicate("P", arity, make([]int, many)...)}}), want)
			}
		}
	}
}

// TestCheckOfValues: at each place of a table.
func TestCheckOfValues(t *testing.T) {
	for n := 1; n <= 8; n++ {
		for arity := range 4 {
			for at := range power(n, arity) {
				for _, value := range []int{-1 << 63, -1, n, n + 1, 1<<63 - 1} {
					table := zeros(n, arity)
					table[at] = value
					s := api.Structure{N: n, Funs: append(funs(n, "C"), fun("F", arity, table...)), Preds: preds(n, "q")}
					sameFault(t, strconv.Itoa(value)+" of "+strconv.Itoa(n), meaning.Check(s), fault(api.ErrForm, 1))
				}
			}
		}
	}
}

// checkedAgain writes down all faults of s with their order, and takes the first.
func checkedAgain(s api.Structure) api.Fault {
	if !slices.Contains([]int{1, 2, 3, 4, 5, 6, 7, 8}, s.N) || len(s.Funs) > 10 || len(s.Preds) > 10 {
		return fault(api.ErrMany, 0)
	}
	type entry struct {
		list, name    string
		arity, filled int
		values        []int
	}
	var l []entry
	for _, f := range s.Funs {
		l = append(l, entry{"functions", f.Name, f.Arity, len(f.Table), f.Table})
	}
	for _, p := range s.Preds {
		l = append(l, entry{"predicates", p.Name, p.Arity, len(p.Bits), nil})
	}
	for at, e := range l {
		isTaken := slices.ContainsFunc(l[:at], func(other entry) bool { return other.list == e.list && other.name == e.name })
		switch {
		case isTaken || !isBigName(e.name):
			return fault(api.ErrName, at)
		case !slices.Contains([]int{0, 1, 2, 3}, e.arity):
			return fault(api.ErrRange, at)
		case e.filled != []int{1, s.N, s.N * s.N, s.N * s.N * s.N}[e.arity]:
			return fault(api.ErrSize, at)
		case len(e.values) > 0 && (slices.Min(e.values) < 0 || slices.Max(e.values) >= s.N):
			return fault(api.ErrForm, at)
		}
	}
	return api.Fault{}
}

func isBigName(s string) bool {
	big, letter := "ABCDEFGHIJKLMNOPQRSTUVWXYZ", "ABCDEFGHIJKLMNOPQRSTUVWXYZabcdefghijklmnopqrstuvwxyz"
	return s != "" && len(s) <= 8 && strings.Contains(big, s[:1]) && strings.Trim(s, letter) == ""
}

// mar makes something wrong by chance, or perhaps not.
func mar(chance *rand.Rand, s *api.Structure) {
	name := [...]string{"", "P", "F", "p", "C", "ABCDEFGHI", "K"}[chance.Intn(7)]
	f, p := &s.Funs[chance.Intn(len(s.Funs))], &s.Preds[chance.Intn(len(s.Preds))]
	switch chance.Intn(10) {
	case 0:
		s.N += chance.Intn(3) - 1
	case 1:
		f.Name = name
	case 2:
		p.Name = name
	case 3:
		f.Arity = chance.Intn(6) - 1
	case 4:
		p.Arity = chance.Intn(6) - 1
	case 5:
		f.Table = append(f.Table, 0)
	case 6:
		p.Bits = p.Bits[:len(p.Bits)/2]
	case 7, 8:
		if len(f.Table) > 0 {
			f.Table[chance.Intn(len(f.Table))] += 2 * (chance.Intn(3) - 1)
		}
	case 9:
		s.Funs = append(s.Funs, s.Funs[:chance.Intn(4)]...)
	}
}

func TestCheckOfMarredStructures(t *testing.T) {
	chance := rand.New(rand.NewSource(2))
	seen := map[api.Fault]int{}
	for range 30000 {
		s := meanings(chance, 1+chance.Intn(4), vocabulary()...)
		for range chance.Intn(4) {
			mar(chance, &s)
		}
		want := checkedAgain(s)
		if got := meaning.Check(s); got != want {
			t.Fatalf("%v: %v, want %v", s, got, want)
		}
		seen[want]++
	}
	if len(seen) < 25 {
		t.Errorf("few faults came: %v", seen)
	}
}
