package formula_test

import (
	"strings"
	"testing"

	"sequent/api"
	"sequent/formula"
)

func TestParse(t *testing.T) {
	p, q, r := name("p"), name("q"), name("r")
	not := func(f api.Formula) api.Formula { return node(api.FNot, f) }
	and := func(f, g api.Formula) api.Formula { return node(api.FAnd, f, g) }
	or := func(f, g api.Formula) api.Formula { return node(api.FOr, f, g) }
	then := func(f, g api.Formula) api.Formula { return node(api.FThen, f, g) }
	for text, want := range map[string]api.Formula{
		"p":                             p,
		"abcdefgh":                      name("abcdefgh"),
		"az":                            name("az"),
		"1":                             node(api.FTrue),
		"0":                             node(api.FFalse),
		"~p":                            not(p),
		"[]p":                           node(api.FBox, p),
		"<>p":                           node(api.FDia, p),
		"~[]<>0":                        not(node(api.FBox, node(api.FDia, node(api.FFalse)))),
		"p&q":                           and(p, q),
		"p|q":                           or(p, q),
		"p->q":                          then(p, q),
		"p & q & r":                     and(and(p, q), r),
		"p | q | r":                     or(or(p, q), r),
		"p -> q -> r":                   then(p, then(q, r)),
		"p & (q & r)":                   and(p, and(q, r)),
		"p | (q | r)":                   or(p, or(q, r)),
		"(p -> q) -> r":                 then(then(p, q), r),
		"p | q & r":                     or(p, and(q, r)),
		"p & q | r":                     or(and(p, q), r),
		"(p | q) & r":                   and(or(p, q), r),
		"p -> q | r":                    then(p, or(q, r)),
		"p | q -> r":                    then(or(p, q), r),
		"~p & q":                        and(not(p), q),
		"~(p & q)":                      not(and(p, q)),
		"~p -> ~q":                      then(not(p), not(q)),
		"p & q -> ~r | 0":               then(and(p, q), or(not(r), node(api.FFalse))),
		"(p & q) -> ((~r) | 0)":         then(and(p, q), or(not(r), node(api.FFalse))),
		"\n ( (\n~ p ) )\n->\n[] q \n ": then(not(p), node(api.FBox, q)),
		"((((p))))":                     p,
	} {
		sameFormula(t, text, parse(t, text), want)
	}
}

func TestParseFaults(t *testing.T) {
	for text, at := range map[string]int{
		"":                     0,
		" ":                    1,
		" \n ":                 3,
		"p q":                  2,
		"p 1":                  2,
		"p1":                   1,
		"10":                   1,
		"1p":                   1,
		"p ~q":                 2,
		"p []q":                2,
		"p (q)":                2,
		"p ->":                 4,
		"p -> \n":              6,
		"p &":                  3,
		"p |  ":                5,
		"~":                    1,
		"[]":                   2,
		"<> ":                  3,
		"(":                    1,
		"(p":                   2,
		"(p ":                  3,
		"((p)":                 4,
		"()":                   1,
		")":                    0,
		"p)":                   1,
		"(p))":                 3,
		"(p q)":                3,
		"(p -> )":              6,
		"p - q":                2,
		"p -":                  2,
		"p - > q":              2,
		"-> p":                 0,
		"p ->> q":              4,
		"p -> -> q":            5,
		"p > q":                2,
		"p <- q":               2,
		"p <> q":               2,
		"[":                    0,
		"[p":                   0,
		"[ ]p":                 0,
		"~[":                   1,
		"]p":                   0,
		"<":                    0,
		"<p":                   0,
		"< >p":                 0,
		">p":                   0,
		"p & & q":              4,
		"p && q":               3,
		"p || q":               3,
		"& p":                  0,
		"p & P":                4,
		"P":                    0,
		"pP":                   1,
		"abcdefghi":            0,
		"p & abcdefghi":        4,
		"p abcdefghi":          2,
		"abcdefgh1":            8,
		"abcdefgh i":           9,
		"~abcdefghij -> ":      1,
		"p\t":                  1,
		"p\r\n":                1,
		"\tp":                  0,
		"p\x00":                1,
		"\xff":                 0,
		"p & é":                4,
		"p\u00a0":              1,
		"2":                    0,
		"_":                    0,
		"`":                    0,
		"{":                    0,
		"p;":                   1,
		"p -> (q & ~(r | 1) x": 19,
	} {
		f, e := formula.Parse(text)
		sameFault(t, text, e, fault(api.ErrText, at))
		if !isZero(f) {
			t.Errorf("%q: a formula is answered beside the fault", text)
		}
	}
}

func TestParseLongTexts(t *testing.T) {
	fill := func(n int) string { return strings.Repeat(" ", n) }
	longest := "p" + fill(api.MaxText-1)
	sameFormula(t, "longest text", parse(t, longest), name("p"))
	sameFormula(t, "blanks ahead", parse(t, fill(api.MaxText-1)+"p"), name("p"))
	for what, c := range map[string]struct {
		text string
		want api.Fault
	}{
		"one byte too many":            {longest + " ", fault(api.ErrMany, 0)},
		"too long ahead of wrong":      {"!" + fill(api.MaxText), fault(api.ErrMany, 0)},
		"very long":                    {fill(1 << 24), fault(api.ErrMany, 0)},
		"longest, but wrong":           {"!" + fill(api.MaxText-1), fault(api.ErrText, 0)},
		"longest, of blanks":           {fill(api.MaxText), fault(api.ErrText, api.MaxText)},
		"longest, wrong at the end":    {fill(api.MaxText-1) + "!", fault(api.ErrText, api.MaxText-1)},
		"longest, of letters":          {strings.Repeat("a", api.MaxText), fault(api.ErrText, 0)},
		"longest, of opening brackets": {strings.Repeat("(", api.MaxText), fault(api.ErrText, api.MaxText)},
		"longest, of negations":        {strings.Repeat("~", api.MaxText), fault(api.ErrText, api.MaxText)},
		"longest, of boxes":            {strings.Repeat("[]", api.MaxText/2), fault(api.ErrText, api.MaxText)},
		"longest, of signs":            {strings.Repeat("p&", api.MaxText/2), fault(api.ErrText, api.MaxText)},
		"longest, of arrows":           {strings.Repeat("p->", api.MaxText/3), fault(api.ErrText, api.MaxText/3*3)},
	} {
		f, e := formula.Parse(c.text)
		sameFault(t, what, e, c.want)
		if !isZero(f) {
			t.Errorf("%s: a formula is answered beside the fault", what)
		}
	}
	deep := (api.MaxText - 1) / 2
	sameFormula(t, "brackets", parse(t, strings.Repeat("(", deep)+"p"+strings.Repeat(")", deep)), name("p"))
}

func TestParseManyNodes(t *testing.T) {
	most := strings.Repeat("~", api.MaxNodes-1) + "p"
	sameFormula(t, "most nodes", parse(t, most), nots(api.MaxNodes-1))
	hundred := strings.Repeat("p & ", 99) + "p"
	parse(t, hundred)
	parse(t, "~("+hundred+")")
	for text, want := range map[string]api.Fault{
		"~" + most:                             fault(api.ErrMany, 0),
		"~~(" + hundred + ")":                  fault(api.ErrMany, 0),
		hundred + " -> 1":                      fault(api.ErrMany, 0),
		hundred + " | 0":                       fault(api.ErrMany, 0),
		"[]<>" + hundred:                       fault(api.ErrMany, 0),
		strings.Repeat("p&", 9999) + "p":       fault(api.ErrMany, 0),
		strings.Repeat("~", 19999) + "1":       fault(api.ErrMany, 0),
		"~" + most + " !":                      fault(api.ErrText, api.MaxNodes+2),
		"~" + most + " ":                       fault(api.ErrMany, 0),
		strings.Repeat("p&", 9999) + "P":       fault(api.ErrText, 19998),
		"(" + hundred + " -> 1":                fault(api.ErrText, len(hundred)+6),
		"(" + hundred + " -> 1" + " (":         fault(api.ErrText, len(hundred)+7),
		strings.Repeat("p|", 5000) + "p\t":     fault(api.ErrText, 10001),
		strings.Repeat("0->", 5000) + "a" + "": fault(api.ErrMany, 0),
	} {
		f, e := formula.Parse(text)
		sameFault(t, text[:min(len(text), 12)], e, want)
		if !isZero(f) {
			t.Errorf("%q: a formula is answered beside the fault", text[:12])
		}
	}
}

// TestParseOfAllShortTexts holds Parse against another reader, which splits at the sign that binds least.
func TestParseOfAllShortTexts(t *testing.T) {
	everyText([]string{"p", "~", "&", "|", "-", ">", "[", "]", "<", "(", ")", "0", " "}, 5, func(s string) { parseLikeOther(t, s) })
	everyText([]string{"p", "q", "~", "&", "|", "->", "(", ")"}, 6, func(s string) { parseLikeOther(t, s) })
	everyText([]string{"(", ")", "p", "->", "|"}, 8, func(s string) { parseLikeOther(t, s) })
	for c := range 256 {
		for _, s := range []string{"@", "p@", "p @", "~@", "(@p)", "p -> @q"} {
			parseLikeOther(t, strings.ReplaceAll(s, "@", string([]byte{byte(c)})))
		}
	}
}

func parseLikeOther(t *testing.T, text string) {
	f, e := formula.Parse(text)
	at, wrong := firstWrong(text)
	if wrong {
		if e != fault(api.ErrText, at) || !isZero(f) {
			t.Fatalf("Parse(%q): %v %v, want a fault at %d", text, told(f), e, at)
		}
		return
	}
	if want := split(strings.NewReplacer(" ", "", "\n", "").Replace(text)); e != (api.Fault{}) || !isSame(f, want) {
		t.Fatalf("Parse(%q): %v %v, want %v", text, told(f), e, told(want))
	}
}

func everyText(pieces []string, most int, visit func(string)) {
	var grow func(s string, left int)
	grow = func(s string, left int) {
		visit(s)
		if left > 0 {
			for _, p := range pieces {
				grow(s+p, left-1)
			}
		}
	}
	grow("", most)
}

// firstWrong needs no tree: what may stand next hangs on whether something is awaited, and on how many brackets are open.
func firstWrong(text string) (int, bool) {
	awaited, open, i := true, 0, 0
	for {
		for i < len(text) && (text[i] == ' ' || text[i] == '\n') {
			i++
		}
		rest := text[i:]
		if rest == "" {
			return i, awaited || open > 0
		}
		letters := len(rest) - len(strings.TrimLeft(rest, "abcdefghijklmnopqrstuvwxyz"))
		switch {
		case awaited && rest[0] == '~':
			i++
		case awaited && (strings.HasPrefix(rest, "[]") || strings.HasPrefix(rest, "<>")):
			i += 2
		case awaited && rest[0] == '(':
			i, open = i+1, open+1
		case awaited && (rest[0] == '0' || rest[0] == '1'):
			i, awaited = i+1, false
		case awaited && letters >= 1 && letters <= 8:
			i, awaited = i+letters, false
		case !awaited && (rest[0] == '&' || rest[0] == '|'):
			i, awaited = i+1, true
		case !awaited && strings.HasPrefix(rest, "->"):
			i, awaited = i+2, true
		case !awaited && open > 0 && rest[0] == ')':
			i, open = i+1, open-1
		default:
			return i, true
		}
	}
}

// split reads a right text without blanks.
func split(s string) api.Formula {
	if i := outside(s, "->"); len(i) > 0 {
		return node(api.FThen, split(s[:i[0]]), split(s[i[0]+2:]))
	}
	if i := outside(s, "|"); len(i) > 0 {
		last := i[len(i)-1]
		return node(api.FOr, split(s[:last]), split(s[last+1:]))
	}
	if i := outside(s, "&"); len(i) > 0 {
		last := i[len(i)-1]
		return node(api.FAnd, split(s[:last]), split(s[last+1:]))
	}
	switch s[0] {
	case '~':
		return node(api.FNot, split(s[1:]))
	case '[':
		return node(api.FBox, split(s[2:]))
	case '<':
		return node(api.FDia, split(s[2:]))
	case '(':
		return split(s[1 : len(s)-1])
	case '1':
		return node(api.FTrue)
	case '0':
		return node(api.FFalse)
	}
	return name(s)
}

// outside tells where the sign stands in no brackets.
func outside(s, sign string) []int {
	var places []int
	open := 0
	for i := range len(s) {
		switch {
		case s[i] == '(':
			open++
		case s[i] == ')':
			open--
		case open == 0 && strings.HasPrefix(s[i:], sign):
			places = append(places, i)
		}
	}
	return places
}
