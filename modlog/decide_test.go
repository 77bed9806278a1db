package modlog_test

import (
	"maps"
	"math/rand"
	"slices"
	"testing"

	"sequent/api"
	"sequent/formula"
)

// known formulas, with a digit for each of K, D, T, K4, S4, S5, B and GL.
func known() map[string]string {
	return map[string]string{
		"[](p -> q) -> []p -> []q":     "11111111",
		"[]p -> <>p":                   "01101110",
		"[]p -> p":                     "00101110",
		"[]p -> [][]p":                 "00011101",
		"p -> []<>p":                   "00000110",
		"<>p -> []<>p":                 "00000100",
		"[]([]p -> p) -> []p":          "00000001",
		"1":                            "11111111",
		"0":                            "00000000",
		"p":                            "00000000",
		"~p":                           "00000000",
		"p | ~p":                       "11111111",
		"[]1":                          "11111111",
		"[]0":                          "00000000",
		"<>1":                          "01101110",
		"<>0":                          "00000000",
		"[]<>1":                        "01101110",
		"~<>0":                         "11111111",
		"[]p":                          "00000000",
		"<>p":                          "00000000",
		"[](p | ~p)":                   "11111111",
		"<>(p | ~p)":                   "01101110",
		"[]0 | <>[]0":                  "00000001",
		"<>[]0":                        "00000000",
		"[]<>1 -> []0":                 "00000001",
		"[]<>p -> []0":                 "00000001",
		"p -> <>p":                     "00101110",
		"<><>p -> <>p":                 "00011101",
		"[][]p -> []p":                 "00101110",
		"<>p -> <><>p":                 "00101110",
		"<>[]p -> p":                   "00000110",
		"<>[]p -> []p":                 "00000100",
		"<>[]p -> []<>p":               "00000110",
		"[]<>p -> <>[]p":               "00000000",
		"[]([]p -> p)":                 "00101110",
		"<>p -> <>(p & ~<>p)":          "00000001",
		"[]([](p -> []p) -> p) -> p":   "00000000",
		"[]([](p -> []p) -> p) -> []p": "00000001",
		"[](p & q) -> []p & []q":       "11111111",
		"[]p & []q -> [](p & q)":       "11111111",
		"[](p | q) -> []p | []q":       "00000000",
		"[]p | []q -> [](p | q)":       "11111111",
		"<>(p | q) -> <>p | <>q":       "11111111",
		"<>(p & q) -> <>p & <>q":       "11111111",
		"<>p & <>q -> <>(p & q)":       "00000000",
		"[](p | q) -> []p | <>q":       "11111111",
		"[]p & <>q -> <>(p & q)":       "11111111",
		"~<>~p -> []p":                 "11111111",
		"[]p -> ~<>~p":                 "11111111",
		"~[]p -> []~[]p":               "00000100",
		"~[]p -> <>~p":                 "11111111",
		"<>p -> []p":                   "00000000",
		"[]p & ~p":                     "00000000",
		"p -> []p":                     "00000000",
		"[](p -> []p) -> <>p -> p":     "00000110",
		"[](p -> []p) -> p -> []p":     "00101110",
		"<>([]p -> p)":                 "00101110",
		"<>(p -> []p)":                 "00101110",
		"[]([]p -> [][]p)":             "00011101",
		"[](p -> []<>p)":               "00000110",
		"[][](<>p -> []<>p)":           "00000100",
		"[]([]([]p -> p) -> []p)":      "00000001",
		"[]<>[]<>p -> []<>p":           "00011111",
		"<>[]<>p -> []<>p":             "00000100",
		"[]([]p -> q) | []([]q -> p)":  "00000100",
		"~[](p & ~p) -> <>1":           "11111111",
		"<>~<>p | p":                   "00000000",
		"~(<>p & []~p)":                "11111111",
		"[]p & []~p -> []q":            "11111111",
		"~([]p & []~p)":                "01101110",
	}
}

func TestKnownFormulas(t *testing.T) {
	for s, want := range known() {
		if got := digits(t, read(t, s)); got != want {
			t.Errorf("%s: %s, want %s", s, got, want)
		}
	}
}

// TestLogicsAreToldApart: of any two there is a formula that one has and the other has not.
func TestLogicsAreToldApart(t *testing.T) {
	answers := map[string]string{}
	for s := range known() {
		answers[s] = digits(t, read(t, s))
	}
	isApart := func(one, other int) bool {
		for _, s := range answers {
			if s[one-K] != s[other-K] {
				return true
			}
		}
		return false
	}
	for one := K; one <= GL; one++ {
		for other := K; other < one; other++ {
			if !isApart(one, other) {
				t.Errorf("%s and %s are not told apart", logics[other], logics[one])
			}
		}
	}
}

// within has of each logic those that have all of its formulas, as their models are among its own.
func within() [][]int {
	return [][]int{K: {D, T, K4, S4, S5, B, GL}, D: {T, S4, S5, B}, T: {S4, S5, B}, K4: {S4, S5, GL}, S4: {S5}, S5: nil, B: {S5}, GL: nil}
}

func lookWithin(t *testing.T, f api.Formula) {
	t.Helper()
	s := digits(t, f)
	for logic, others := range within() {
		for _, other := range others {
			if s[logic-K] == '1' && s[other-K] == '0' {
				t.Fatalf("%s: valid in %s, and not in %s", text(f), logics[logic], logics[other])
			}
		}
	}
}

func TestSmallFormulas(t *testing.T) {
	for _, f := range modalUpTo(6, "p") {
		lookWithin(t, f)
	}
	for _, f := range modalUpTo(5, "p", "q") {
		lookWithin(t, f)
	}
}

func TestFormulasByChance(t *testing.T) {
	chance := rand.New(rand.NewSource(1))
	large := 0
	for range 4000 {
		f := anyModal(chance, api.MaxSubs, "p", "q")
		if partsIn(f) >= 8 {
			large++
		}
		lookWithin(t, f)
	}
	for range 500 {
		lookWithin(t, anyModal(chance, api.MaxSubs, "p", "q", "r", "letters"))
	}
	if large < 1000 {
		t.Errorf("only %d have eight parts and more", large)
	}
}

// filled is f with other formulas for p and q, if that has not too many parts.
func filled(chance *rand.Rand, f api.Formula) (g api.Formula, fits bool) {
	f, _ = formula.Put(f, "p", anyModal(chance, 5, "p", "q"))
	f, e := formula.Put(f, "q", anyModal(chance, 3, "p", "q"))
	return f, e == (api.Fault{}) && partsIn(f) <= api.MaxSubs
}

// TestPutForNames: what is valid stays so, whatever is put for its names.
func TestPutForNames(t *testing.T) {
	chance := rand.New(rand.NewSource(2))
	count := 0
	for _, s := range slices.Sorted(maps.Keys(known())) {
		was := known()[s]
		for range 60 {
			f, fits := filled(chance, read(t, s))
			if !fits {
				continue
			}
			count++
			got := digits(t, f)
			for logic := K; logic <= GL; logic++ {
				if was[logic-K] == '1' && got[logic-K] == '0' {
					t.Errorf("%s: %s is valid, %s is not", logics[logic], s, text(f))
				}
			}
		}
	}
	if count < 1500 {
		t.Errorf("only %d came", count)
	}
}

// TestRules: FBox of what is valid is valid; what follows of what is valid is, too.
func TestRules(t *testing.T) {
	chance := rand.New(rand.NewSource(3))
	count := 0
	texts := slices.Sorted(maps.Keys(known()))
	for range 5000 {
		f, fits := filled(chance, read(t, texts[chance.Intn(len(texts))]))
		g := anyModal(chance, 5, "p", "q")
		box, then := node(api.FBox, f), node(api.FThen, f, g)
		if !fits || partsIn(box) > api.MaxSubs || partsIn(then) > api.MaxSubs {
			continue
		}
		for logic := K; logic <= GL; logic++ {
			if !asked(t, logic, f) {
				continue
			}
			count++
			if !asked(t, logic, box) {
				t.Errorf("%s: %s is valid, and FBox of it is not", logics[logic], text(f))
			}
			if asked(t, logic, then) && !asked(t, logic, g) {
				t.Errorf("%s: %s and %s are valid, and %s is not", logics[logic], text(f), text(then), text(g))
			}
		}
	}
	if count < 1000 {
		t.Errorf("only %d are valid", count)
	}
}
