package first_test

import (
	"strings"
	"testing"

	"sequent/api"
	"sequent/first"
)

func TestParse(t *testing.T) {
	x, y, c := word("x"), word("y"), word("C")
	p, q := pred("P", x), pred("Q")
	for text, want := range map[string]api.Expr{
		"1":                     node(api.ETrue),
		"0":                     node(api.EFalse),
		"Q":                     q,
		"ABCDEFGH":              pred("ABCDEFGH"),
		"Abcdefgh":              pred("Abcdefgh"),
		"AzZa":                  pred("AzZa"),
		"P(x)":                  p,
		"R(x,y)":                pred("R", x, y),
		"R(x,y,x)":              pred("R", x, y, x),
		"R(F(x), C)":            pred("R", word("F", x), c),
		"P(F(G(x,C),y))":        pred("P", word("F", word("G", x, c), y)),
		"P(abcdefgh)":           pred("P", word("abcdefgh")),
		"x=y":                   same(x, y),
		"x = C":                 same(x, c),
		"C = x":                 same(c, x),
		"F(x) = F(F(x))":        same(word("F", x), word("F", word("F", x))),
		"P(x) & P(x) = y":       and(p, same(word("P", x), y)),
		"Q = x & Q(x) | R":      or(and(same(word("Q"), x), pred("Q", x)), pred("R")),
		"~Q":                    not(q),
		"~~x = y":               not(not(same(x, y))),
		"!x P(x)":               all("x", p),
		"?x P(x)":               some("x", p),
		"!abcdefgh Q":           all("abcdefgh", q),
		"!x x = y":              all("x", same(x, y)),
		"!x!y?x Q":              all("x", all("y", some("x", q))),
		"!x(Q)":                 all("x", q),
		"!x~Q":                  all("x", not(q)),
		"!x 1":                  all("x", node(api.ETrue)),
		"!x0":                   all("x", node(api.EFalse)),
		"~!x Q":                 not(all("x", q)),
		"!x P(x) & Q":           and(all("x", p), q),
		"(!x P(x)) & Q":         and(all("x", p), q),
		"!x (P(x) & Q)":         all("x", and(p, q)),
		"?x P(x) -> Q":          then(some("x", p), q),
		"!x x = y | y = x":      or(all("x", same(x, y)), same(y, x)),
		"Q & Q & P(x)":          and(and(q, q), p),
		"Q & (Q & P(x))":        and(q, and(q, p)),
		"Q | Q | P(x)":          or(or(q, q), p),
		"Q -> Q -> P(x)":        then(q, then(q, p)),
		"(Q -> Q) -> P(x)":      then(then(q, q), p),
		"Q | P(x) & Q":          or(q, and(p, q)),
		"x = y & y = x | C = x": or(and(same(x, y), same(y, x)), same(c, x)),
		"x = y -> Q | ~Q & 1":   then(same(x, y), or(q, and(not(q), node(api.ETrue)))),
		"(((x = y)))":           same(x, y),
		" \n!\n x \n R \n( \n F\n(\n x\n )\n ,\n y ) \n": all("x", pred("R", word("F", x), y)),
		"\n( \nx\n =\n C \n)\n->\n~\n0 \n ":              then(same(x, c), not(node(api.EFalse))),
	} {
		sameExpr(t, text, read(t, text), want)
	}
}

func TestParseFaults(t *testing.T) {
	for text, at := range map[string]int{
		"":                     0,
		" ":                    1,
		" \n ":                 3,
		"x":                    1,
		"x ":                   2,
		"x y":                  2,
		"x & y = x":            2,
		"x = ":                 4,
		"x =":                  3,
		"x = y = z":            6,
		"x = y z":              6,
		"x = y(z)":             5,
		"x = 1":                4,
		"x = (y)":              4,
		"x = ~y":               4,
		"x == y":               3,
		"x != y":               2,
		"x(y) = z":             1,
		"(x)":                  2,
		"(x) = y":              2,
		"(P) = y":              4,
		"1 = x":                2,
		"~x":                   2,
		"~x & Q":               3,
		"= x":                  0,
		"P(":                   2,
		"P()":                  2,
		"P( )":                 3,
		"P(x":                  3,
		"P(x ":                 4,
		"P(x,":                 4,
		"P(x,)":                4,
		"P(,x)":                2,
		"P(x y)":               4,
		"P(x;y)":               3,
		"P(x(y))":              3,
		"P(x = y)":             4,
		"P(Q & Q)":             4,
		"P(F(x)":               6,
		"P(F(x) = y)":          7,
		"P(F(x)) = ":           10,
		"P(F(x)) Q":            8,
		"P(F(x)))":             7,
		"P(~x)":                2,
		"P(1)":                 2,
		"P((x))":               2,
		"P(!x Q)":              2,
		"P(x)(y)":              4,
		"P P":                  2,
		"P x":                  2,
		"P, Q":                 1,
		"P -> ":                5,
		"P -":                  2,
		"P - Q":                2,
		"P - > Q":              2,
		"P > Q":                2,
		"-> P":                 0,
		"P & & Q":              4,
		"P && Q":               3,
		"P |":                  3,
		"| P":                  0,
		"P ~Q":                 2,
		"P !x Q":               2,
		"P 1":                  2,
		"10":                   1,
		"1P":                   1,
		"P1":                   1,
		"P(x1)":                3,
		"x1 = y":               1,
		"!":                    1,
		"! ":                   2,
		"!x":                   2,
		"!x ":                  3,
		"!x & P":               3,
		"!x = y":               3,
		"!x, y P":              2,
		"!x y":                 4,
		"!x y P":               5,
		"!P(x)":                1,
		"!P P":                 1,
		"!xP(x)":               1,
		"!xP P":                1,
		"!1 P":                 1,
		"!(x) P":               1,
		"!~P":                  1,
		"!!x P":                1,
		"?":                    1,
		"?Xy P":                1,
		"?x)":                  2,
		"!abcdefghi P":         1,
		"! abcdefghi P":        2,
		"!x!":                  3,
		"(":                    1,
		"()":                   1,
		")":                    0,
		"(P":                   2,
		"((P)":                 4,
		"(P))":                 3,
		"(P Q)":                3,
		"(P, Q)":               2,
		"xY = x":               0,
		"x = xY":               4,
		"x = abcdefghi":        4,
		"P(xY)":                2,
		"P(x, abcdefghi)":      5,
		"P(x, Abcdefghi)":      5,
		"ABCDEFGHI":            0,
		"Abcdefghi(x)":         0,
		"abcdefghi = x":        0,
		"P & Abcdefghi":        4,
		"P Abcdefghi":          2,
		"x abcdefghi":          2,
		"Abcdefgh i":           9,
		"Abcdefgh1":            8,
		"[]P":                  0,
		"<>P":                  0,
		"~[]P":                 1,
		"P <> Q":               2,
		"P[x]":                 1,
		"P\t":                  1,
		"P\r\n":                1,
		"\tP":                  0,
		"P(\tx)":               2,
		"P\x00":                1,
		"\xff":                 0,
		"P & é":                4,
		"Pé":                   1,
		"!é P":                 1,
		"P\u00a0":              1,
		"2":                    0,
		"_":                    0,
		"@":                    0,
		"`":                    0,
		"{":                    0,
		"P.":                   1,
		"P -> (Q & ~(R | 1) X": 19,
	} {
		e, f := first.Parse(text)
		sameFault(t, text, f, fault(api.ErrText, at))
		if !isZero(e) {
			t.Errorf("%q: an expression is answered beside the fault", text)
		}
	}
}

// faultOfText is what Parse must say of a long text, which a shorter one tells of.
type faultOfText struct {
	what, text string
	want       api.Fault
}

func parseFaults(t *testing.T, l []faultOfText) {
	t.Helper()
	for _, c := range l {
		e, f := first.Parse(c.text)
		sameFault(t, c.what, f, c.want)
		if !isZero(e) {
			t.Errorf("%s: an expression is answered beside the fault", c.what)
		}
	}
}

func TestParseLongTexts(t *testing.T) {
	const most = api.MaxText
	fill := func(n int) string { return strings.Repeat(" ", n) }
	longest := "Q" + strings.Repeat("\n", most-1)
	sameExpr(t, "longest text", read(t, longest), pred("Q"))
	sameExpr(t, "blanks ahead", read(t, fill(most-1)+"Q"), pred("Q"))
	sameExpr(t, "blanks within", read(t, "P("+fill(most-4)+"x)"), pred("P", word("x")))
	deep := (most - 1) / 2
	sameExpr(t, "brackets", read(t, strings.Repeat("(", deep)+"Q"+strings.Repeat(")", deep)), pred("Q"))
	parseFaults(t, []faultOfText{
		{"one byte too many", longest + " ", fault(api.ErrMany, 0)},
		{"one byte too many, within", "P(" + fill(most-3) + "x)", fault(api.ErrMany, 0)},
		{"too long ahead of wrong", "&" + fill(most), fault(api.ErrMany, 0)},
		{"very long", fill(1 << 24), fault(api.ErrMany, 0)},
		{"longest, but wrong", "&" + fill(most-1), fault(api.ErrText, 0)},
		{"longest, of blanks", fill(most), fault(api.ErrText, most)},
		{"longest, wrong at the end", fill(most-1) + "&", fault(api.ErrText, most-1)},
		{"longest, of small letters", strings.Repeat("a", most), fault(api.ErrText, 0)},
		{"longest, of letters", strings.Repeat("Aa", most/2), fault(api.ErrText, 0)},
		{"longest, of opening brackets", strings.Repeat("(", most), fault(api.ErrText, most)},
		{"longest, of opened words", strings.Repeat("F(", most/2), fault(api.ErrText, most)},
		{"longest, of words", "P(" + strings.Repeat("x,", most/2-1), fault(api.ErrText, most)},
		{"longest, of negations", strings.Repeat("~", most), fault(api.ErrText, most)},
		{"longest, of quantifiers", strings.Repeat("!x?y", most/4), fault(api.ErrText, most)},
		{"longest, of signs", strings.Repeat("P&", most/2), fault(api.ErrText, most)},
		{"longest, of arrows", strings.Repeat("Pp->", most/4), fault(api.ErrText, most)},
	})
}

// TestParseTellsWhatCheckSays: behind all faults of the text.
func TestParseTellsWhatCheckSays(t *testing.T) {
	const most = api.MaxNodes
	sameExpr(t, "most nodes", read(t, strings.Repeat("~", most-1)+"Q"), nots(most-1, pred("Q")))
	sameExpr(t, "most words", read(t, "P("+strings.Repeat("x,", most-2)+"x)"), pred("P", many(most-1, "x")...))
	deep := strings.Repeat("F(", most-2) + "x" + strings.Repeat(")", most-2)
	sameExpr(t, "most in one another", read(t, "P("+deep+")"), pred("P", nested(most-2, word("x"))))
	parseFaults(t, []faultOfText{
		{"one node too many", strings.Repeat("~", most) + "Q", fault(api.ErrMany, 0)},
		{"one word too many", "P(" + strings.Repeat("x,", most-1) + "x)", fault(api.ErrMany, 0)},
		{"one word too deep", "P(F(" + deep + "))", fault(api.ErrMany, 0)},
		{"one word too many at a sign", "x = F(" + deep + ")", fault(api.ErrMany, 0)},
		{"very many", strings.Repeat("P&", 9999) + "P", fault(api.ErrMany, 0)},
		{"very deep", strings.Repeat("~", 19999) + "1", fault(api.ErrMany, 0)},
		{"very deep words", "P(" + strings.Repeat("F(", 6000) + "x" + strings.Repeat(")", 6001), fault(api.ErrMany, 0)},
		{"very many quantifiers", strings.Repeat("?y", 9999) + "1", fault(api.ErrMany, 0)},
		{"text ahead of too many", strings.Repeat("~", most) + "Q )", fault(api.ErrText, most+2)},
		{"text ahead of too many, at its end", strings.Repeat("P&", 9999), fault(api.ErrText, 19998)},
		{"two numbers of words", "P(x) & P", fault(api.ErrForm, 3)},
		{"two numbers of words, turned", "P & P(x)", fault(api.ErrForm, 2)},
		{"two numbers of Args", "!x R(F(x), F)", fault(api.ErrForm, 4)},
		{"two numbers of Args at a sign", "F(x) = y & ~F = y", fault(api.ErrForm, 7)},
		{"the first of two", "P(x) & P & Q(F, F(x)) & Q", fault(api.ErrForm, 5)},
		{"text ahead of places", "P(x) & P & ", fault(api.ErrText, 11)},
		{"text ahead of places, within", "P(x) & P & P(x, )", fault(api.ErrText, 16)},
		{"places ahead of too many", "P(x) & (P & (" + strings.Repeat("~", most) + "Q))", fault(api.ErrForm, 4)},
		{"too many ahead of places", "P(x) & (" + strings.Repeat("~", most) + "Q & P)", fault(api.ErrMany, 0)},
		{"too long ahead of places", "P(x) & P" + strings.Repeat(" ", api.MaxText), fault(api.ErrMany, 0)},
	})
}
