package first_test

import (
	"math/rand"
	"strings"
	"testing"

	"sequent/api"
	"sequent/first"
)

func printed(t *testing.T, e api.Expr) string {
	t.Helper()
	s, f := first.Print(e)
	if f != (api.Fault{}) {
		t.Fatalf("Print of %s: %v", told(e), f)
	}
	return s
}

func TestPrint(t *testing.T) {
	x, y, c := word("x"), word("y"), word("C")
	p, q := pred("P", x), pred("Q")
	for want, e := range map[string]api.Expr{
		"1":                          node(api.ETrue),
		"0":                          node(api.EFalse),
		"Q":                          q,
		"Abcdefgh":                   pred("Abcdefgh"),
		"P(x)":                       p,
		"R(x, y, C)":                 pred("R", x, y, c),
		"R(F(x, y), G(G(C)))":        pred("R", word("F", x, y), word("G", word("G", c))),
		"x = y":                      same(x, y),
		"F(x, C) = C":                same(word("F", x, c), c),
		"~Q":                         not(q),
		"~~P(x)":                     not(not(p)),
		"~x = y":                     not(same(x, y)),
		"~(Q & Q)":                   not(and(q, q)),
		"!x P(x)":                    all("x", p),
		"?abcdefgh Q":                some("abcdefgh", q),
		"!x ?y !x Q":                 all("x", some("y", all("x", q))),
		"!x ~P(x)":                   all("x", not(p)),
		"~!x ~?y Q":                  not(all("x", not(some("y", q)))),
		"!x x = y":                   all("x", same(x, y)),
		"!x (P(x) & Q)":              all("x", and(p, q)),
		"!x (P(x) | Q)":              all("x", or(p, q)),
		"?x (P(x) -> Q)":             some("x", then(p, q)),
		"!x P(x) & Q":                and(all("x", p), q),
		"Q & !x P(x)":                and(q, all("x", p)),
		"Q & !x P(x) & Q":            and(and(q, all("x", p)), q),
		"!x 1 -> ?y 0":               then(all("x", node(api.ETrue)), some("y", node(api.EFalse))),
		"x = y & y = x":              and(same(x, y), same(y, x)),
		"x = y | y = x -> C = C":     then(or(same(x, y), same(y, x)), same(c, c)),
		"Q & Q & P(x)":               and(and(q, q), p),
		"Q & (Q & P(x))":             and(q, and(q, p)),
		"Q | Q | P(x)":               or(or(q, q), p),
		"Q | (Q | P(x))":             or(q, or(q, p)),
		"Q -> Q -> P(x)":             then(q, then(q, p)),
		"(Q -> Q) -> P(x)":           then(then(q, q), p),
		"(Q | Q) & (Q -> Q)":         and(or(q, q), then(q, q)),
		"Q & Q | Q & Q":              or(and(q, q), and(q, q)),
		"(!x (P(x) -> Q) -> Q) -> Q": then(then(all("x", then(p, q)), q), q),
	} {
		if got := printed(t, e); got != want {
			t.Errorf("Print of %s: %q, want %q", told(e), got, want)
		}
	}
}

// printsRight: Parse of Print is the expression, with no more brackets and blanks than there must be.
func printsRight(t *testing.T, e api.Expr) {
	t.Helper()
	s := printed(t, e)
	if g, f := first.Parse(s); f != (api.Fault{}) || told(g) != told(e) {
		t.Fatalf("Parse of %q: %s %v, want %s", s, told(g), f, told(e))
	}
	needsItsBrackets(t, s, e)
	if want := laid(s); s != want {
		t.Fatalf("%q, want its blanks as in %q", s, want)
	}
}

func needsItsBrackets(t *testing.T, s string, e api.Expr) {
	t.Helper()
	var open []int
	for i := range len(s) {
		switch s[i] {
		case '(':
			open = append(open, i)
		case ')':
			from := open[len(open)-1]
			open = open[:len(open)-1]
			without := s[:from] + s[from+1:i] + s[i+1:]
			if g, f := first.Parse(without); f == (api.Fault{}) && told(g) == told(e) {
				t.Fatalf("%q has brackets too many: %q is the same", s, without)
			}
		}
	}
}

// laid is a text with the blanks that the document has in it, whichever it had.
func laid(s string) string {
	out := ""
	signs := signsOf(s)
	for i, x := range signs {
		end := len(s)
		if i+1 < len(signs) {
			end = signs[i+1].at
		}
		text := strings.Trim(s[x.at:end], " \n")
		switch {
		case strings.IndexByte(">|&=", x.is) >= 0:
			out += " " + text + " "
		case x.is == ',', x.is == 'v' && i > 0 && (signs[i-1].is == '!' || signs[i-1].is == '?'):
			out += text + " "
		default:
			out += text
		}
	}
	return out
}

func TestPrintOfAllSmallExpressions(t *testing.T) {
	seen := 0
	for nodes := range 7 {
		for _, e := range small(nodes) {
			printsRight(t, e)
			seen++
		}
	}
	if seen < 10000 {
		t.Errorf("only %d of them", seen)
	}
}

func TestPrintOfExpressionsByChance(t *testing.T) {
	chance := rand.New(rand.NewSource(3))
	for range 5000 {
		if e := byChance(chance, 1+chance.Intn(8), "x", "y", "abcdefgh"); count(e) <= api.MaxNodes {
			printsRight(t, e)
		}
	}
}

// TestPrintOfGreatestExpressions: the longest names at most nodes are far from too long a text.
func TestPrintOfGreatestExpressions(t *testing.T) {
	const long = "abcdefgh"
	quantified, left, right := pred("Abcdefgh"), pred("Abcdefgh"), pred("Abcdefgh")
	for range api.MaxNodes - 1 {
		quantified = all(long, quantified)
	}
	for range 66 {
		left = then(some(long, left), pred("Abcdefgh"))
		right = and(pred("Abcdefgh"), all(long, right))
	}
	deep := word("Abcdefgh")
	for range 99 {
		deep = word("Bcdefghi", word(long), deep)
	}
	for _, e := range []api.Expr{quantified, left, right, pred("P", deep), pred("P", many(api.MaxNodes-1, long)...), nots(api.MaxNodes-1, pred("Q"))} {
		sameExpr(t, "Parse of Print", read(t, printed(t, e)), e)
	}
}
