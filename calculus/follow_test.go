package calculus_test

import (
	"math/rand"
	"slices"
	"strings"
	"testing"

	"sequent/api"
	"sequent/calculus"
)

// line is a line of the chapter's table, once more: L and R are End's sides, the other letters are the chapter's.
type line struct {
	rule     string
	kind     int    // of F; 0: of any
	at       string // L, R, or both: where F must be
	premises []string
}

func lines(intuit bool) []line {
	common := []line{
		{"ax", 0, "LR", nil},
		{"true", api.FTrue, "R", nil},
		{"false", api.FFalse, "L", nil},
		{"and-l", api.FAnd, "L", []string{"GAB=>R"}},
		{"and-r", api.FAnd, "R", []string{"L=>DA", "L=>DB"}},
		{"or-l", api.FOr, "L", []string{"GA=>R", "GB=>R"}},
		{"then-r", api.FThen, "R", []string{"LA=>DB"}},
		{"not-r", api.FNot, "R", []string{"LA=>D"}},
		{"contr-l", 0, "L", []string{"LF=>R"}},
	}
	if intuit {
		return append(common, []line{
			{"or-r1", api.FOr, "R", []string{"L=>A"}},
			{"or-r2", api.FOr, "R", []string{"L=>B"}},
			{"then-l", api.FThen, "L", []string{"G=>A", "GB=>R"}},
			{"not-l", api.FNot, "L", []string{"G=>A"}},
			{"cut", 0, "", []string{"L=>F", "LF=>R"}},
		}...)
	}
	return append(common, []line{
		{"or-r", api.FOr, "R", []string{"L=>DAB"}},
		{"then-l", api.FThen, "L", []string{"G=>RA", "GB=>R"}},
		{"not-l", api.FNot, "L", []string{"G=>RA"}},
		{"contr-r", 0, "R", []string{"L=>RF"}},
		{"cut", 0, "", []string{"L=>RF", "LF=>R"}},
	}...)
}

// but is l without the first formula that is written as text, and whether there is one.
func but(t *testing.T, l []api.Formula, text string) ([]api.Formula, bool) {
	t.Helper()
	for i := range l {
		if texts(t, l[i:i+1])[0] == text {
			return append(append([]api.Formula{}, l[:i]...), l[i+1:]...), true
		}
	}
	return l, false
}

// premisesOf reads the line for F and End; from the last formula to the first, as their order does not matter.
func premisesOf(t *testing.T, row line, f api.Formula, end api.Sequent) ([]api.Sequent, bool) {
	t.Helper()
	text := texts(t, []api.Formula{f})[0]
	g, isLeft := but(t, end.Left, text)
	d, isRight := but(t, end.Right, text)
	if row.kind != 0 && row.kind != f.Kind || strings.Contains(row.at, "L") && !isLeft || strings.Contains(row.at, "R") && !isRight {
		return nil, false
	}
	side := func(letters string) []api.Formula {
		var l []api.Formula
		for _, c := range letters {
			switch c {
			case 'L':
				l = append(l, end.Left...)
			case 'R':
				l = append(l, end.Right...)
			case 'G':
				l = append(l, g...)
			case 'D':
				l = append(l, d...)
			case 'A':
				l = append(l, f.Kids[0])
			case 'B':
				l = append(l, f.Kids[1])
			case 'F':
				l = append(l, f)
			}
		}
		slices.Reverse(l)
		return l
	}
	var all []api.Sequent
	for _, premise := range row.premises {
		left, right, _ := strings.Cut(premise, "=>")
		all = append(all, api.Sequent{Left: side(left), Right: side(right)})
	}
	return all, true
}

// sides are all lists of formulas of so many texts at most.
func sides(t *testing.T, pool []string, most int) [][]api.Formula {
	t.Helper()
	all := [][]api.Formula{nil}
	for i, text := range pool {
		all = append(all, []api.Formula{read(t, text)})
		for _, other := range pool[:i+1] {
			if most > 1 {
				all = append(all, []api.Formula{read(t, text), read(t, other)})
			}
		}
	}
	return all
}

func pool() []string { return []string{"p", "q", "~p", "p & q", "q | p", "p -> q", "1", "0"} }

// TestAllSmallSteps holds the rules against the table, at all small sequents, and looks that no step leads from what is true in a row to what is false there.
func TestAllSmallSteps(t *testing.T) {
	rows := rowsOf("p", "q")
	for calculus, intuit := range calculi() {
		most := 2
		if intuit {
			most = 1
		}
		lefts, rights := sides(t, pool(), 2), sides(t, pool(), most)
		for _, left := range lefts {
			for _, right := range rights {
				end := api.Sequent{Left: left, Right: right}
				for _, text := range pool() {
					for _, row := range lines(intuit) {
						smallStep(t, calculus, row, read(t, text), end, intuit, rows)
					}
				}
			}
		}
	}
}

func smallStep(t *testing.T, what string, row line, f api.Formula, end api.Sequent, intuit bool, rows [][]string) {
	t.Helper()
	premises, applies := premisesOf(t, row, f, end)
	p := api.Proof{Rule: row.rule, F: f, End: end}
	for _, s := range premises {
		p.Kids = append(p.Kids, api.Proof{End: s})
	}
	want := fault(api.ErrFalse, 0)
	if applies {
		want = passed(p)
	}
	if got := calculus.Check(p, intuit); got != want {
		t.Fatalf("%s %s, %v: %s: %v, want %v", what, row.rule, texts(t, []api.Formula{f}), told(t, end), got, want)
	}
	if !applies {
		return
	}
	for _, holds := range rows {
		isFalse := func(s api.Sequent) bool { return !isTrue(t, s, holds) }
		if isFalse(end) && !slices.ContainsFunc(premises, isFalse) {
			t.Fatalf("%s %s: %s is false where all its premises are true", what, row.rule, told(t, end))
		}
	}
}

// TestAllSmallWeak counts texts, of all pairs of small sequents.
func TestAllSmallWeak(t *testing.T) {
	l := sides(t, []string{"p", "q", "~p"}, 2)
	var all []api.Sequent
	for _, left := range l {
		for _, right := range l {
			all = append(all, api.Sequent{Left: left, Right: right})
		}
	}
	for _, end := range all {
		for _, kid := range all {
			p := api.Proof{Rule: "weak", End: end, Kids: []api.Proof{{End: kid}}}
			isAllowed := isCovered(texts(t, kid.Left), texts(t, end.Left)) && isCovered(texts(t, kid.Right), texts(t, end.Right))
			for calculus, intuit := range calculi() {
				want := fault(api.ErrFalse, 0)
				if isAllowed {
					want = fault(api.ErrKind, 1)
				}
				if intuit && len(end.Right) > 1 {
					want = fault(api.ErrForm, 0)
				}
				sameFault(t, calculus+" weak: "+told(t, end)+" of "+told(t, kid), check(t, "weak", p, intuit), want)
			}
		}
	}
}

func isCovered(l, whole []string) bool {
	count := map[string]int{}
	for _, text := range whole {
		count[text]++
	}
	for _, text := range l {
		count[text]--
		if count[text] < 0 {
			return false
		}
	}
	return true
}

// found looks for a proof without cut, by the table's lines, with so many steps in one another at most.
func found(t *testing.T, s api.Sequent, deep int, intuit bool) (api.Proof, bool) {
	t.Helper()
	if deep == 0 {
		return api.Proof{}, false
	}
	for _, row := range lines(intuit) {
		if row.rule == "cut" || strings.HasPrefix(row.rule, "contr") && deep < 3 {
			continue
		}
		for _, f := range slices.Concat(s.Left, s.Right) {
			premises, applies := premisesOf(t, row, f, s)
			if !applies {
				continue
			}
			p := api.Proof{Rule: row.rule, F: f, End: s}
			for _, premise := range premises {
				kid, is := found(t, premise, deep-1, intuit)
				if !is {
					break
				}
				p.Kids = append(p.Kids, kid)
			}
			if len(p.Kids) == len(premises) {
				return p, true
			}
		}
	}
	return api.Proof{}, false
}

// someProofs are of each calculus.
func someProofs(t *testing.T, intuit bool) []api.Proof {
	t.Helper()
	ends := []string{
		"=> p -> q -> p", "=> (p -> q) & (q -> r) -> p -> r", "p & q => q & p", "p | q => q | p",
		"p & (q | r) => p & q | p & r", "~p | q => p -> q", "p, ~p => r", "=> ~(p & ~p)", "0 => p", "=> p -> 1",
		"p -> q => ~q -> ~p", "=> p -> ~~p", "~~~p => ~p", "~(p | q) => ~p & ~q", "p | p => p", "q, p -> q, p => q & q",
	}
	if !intuit {
		ends = append(ends, "=> p | ~p", "~~p => p", "=> ((p -> q) -> p) -> p", "~(p & q) => ~p, ~q", "p => q, p", "=> p -> q, q -> r", "p | q => p, q")
	}
	var all []api.Proof
	for _, text := range ends {
		p, is := found(t, sequent(t, text), 6, intuit)
		if !is {
			t.Fatalf("no proof of %s is found", text)
		}
		all = append(all, p)
	}
	return all
}

// TestProofsTellWhatIsTrue changes proofs here and there: of which nothing is said then ends with what is true in all rows.
func TestProofsTellWhatIsTrue(t *testing.T) {
	chance := rand.New(rand.NewSource(3))
	rows := rowsOf("p", "q", "r")
	for calculus, intuit := range calculi() {
		good := 0
		for _, p := range someProofs(t, intuit) {
			sameFault(t, told(t, p.End), check(t, calculus, p, intuit), api.Fault{})
			for range 2000 {
				changed := changedProof(t, chance, p, intuit)
				if check(t, calculus, changed, intuit).Code != api.OK {
					continue
				}
				good++
				for _, holds := range rows {
					if !isTrue(t, changed.End, holds) {
						t.Fatalf("%s: %s is proved, and is false where %v", calculus, told(t, changed.End), holds)
					}
				}
			}
		}
		if good < 100 {
			t.Errorf("%s: only %d changed proofs are still some", calculus, good)
		}
	}
}

// changedProof is p with one or two steps changed.
func changedProof(t *testing.T, chance *rand.Rand, p api.Proof, intuit bool) api.Proof {
	t.Helper()
	p = cloned(p)
	for range 1 + chance.Intn(2) {
		at := chance.Intn(stepsIn(p))
		s := stepAt(&p, &at)
		switch chance.Intn(5) {
		case 0:
			all := lines(intuit)
			s.Rule = all[chance.Intn(len(all))].rule
		case 1:
			s.Rule, s.F = "weak", api.Formula{}
		case 2:
			s.F = read(t, pool()[chance.Intn(8)])
		case 3:
			s.End.Left = changedSide(t, chance, s.End.Left)
		case 4:
			s.End.Right = changedSide(t, chance, s.End.Right)
		}
	}
	return p
}

func changedSide(t *testing.T, chance *rand.Rand, l []api.Formula) []api.Formula {
	t.Helper()
	if len(l) == 0 || chance.Intn(2) == 0 {
		return append(slices.Clone(l), read(t, pool()[chance.Intn(8)]))
	}
	at := chance.Intn(len(l))
	return slices.Delete(slices.Clone(l), at, at+1)
}

func cloned(p api.Proof) api.Proof {
	p.Kids = slices.Clone(p.Kids)
	for i := range p.Kids {
		p.Kids[i] = cloned(p.Kids[i])
	}
	return p
}

func stepsIn(p api.Proof) int {
	n := 1
	for _, k := range p.Kids {
		n += stepsIn(k)
	}
	return n
}

// TestIntuitionisticIsClassical makes each intuitionistic proof a classical one of the same End: what a rule left behind at the Right comes back by weak.
func TestIntuitionisticIsClassical(t *testing.T) {
	for _, p := range someProofs(t, true) {
		sameFault(t, told(t, p.End), check(t, "intuitionistic", p, true), api.Fault{})
		sameFault(t, told(t, p.End), check(t, "classical", classical(t, p), false), api.Fault{})
		cut := api.Proof{Rule: "cut", F: p.End.Right[0], End: p.End, Kids: []api.Proof{
			p, {Rule: "ax", F: p.End.Right[0], End: api.Sequent{Left: append(slices.Clone(p.End.Left), p.End.Right[0]), Right: p.End.Right}},
		}}
		sameFault(t, told(t, p.End), check(t, "cut", cut, true), api.Fault{})
		sameFault(t, told(t, p.End), check(t, "cut", classical(t, cut), false), api.Fault{})
	}
}

func classical(t *testing.T, p api.Proof) api.Proof {
	t.Helper()
	p = cloned(p)
	for i, k := range p.Kids {
		p.Kids[i] = classical(t, k)
	}
	if strings.HasPrefix(p.Rule, "or-r") {
		p.Rule = "or-r"
	}
	for _, row := range lines(false) {
		if row.rule != p.Rule {
			continue
		}
		premises, _ := premisesOf(t, row, p.F, p.End)
		for i, s := range premises {
			p.Kids[i] = api.Proof{Rule: "weak", End: s, Kids: []api.Proof{p.Kids[i]}}
		}
	}
	return p
}
