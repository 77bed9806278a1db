package truth_test

import (
	"slices"
	"strings"
	"testing"

	"sequent/api"
)

const (
	mostNames    = "a & b & c & d & e & f"
	oneNameMore  = "a & b & c & d & e & f & g"
	manyButValid = "1 | (a & b & c & d & e & f & g)"
)

func TestRows(t *testing.T) {
	for _, c := range []struct{ f, want string }{
		{"1", "1"},
		{"0", "0"},
		{"~0 -> 0", "0"},
		{"p", "01"},
		{"~p", "10"},
		{"p | ~p", "11"},
		{"p & 0", "00"},
		{"p & q", "0001"},
		{"q & p", "0001"},
		{"p | q", "0111"},
		{"p -> q", "1011"},
		{"q -> p", "1101"},
		{"q & ~p", "0010"},
		{"z & ~b", "0010"},
		{"b & ~z", "0100"},
		{"pp & ~p", "0010"},
		{"a & (b | c)", "00010101"},
		{"c & ~a & ~b", "00001000"},
		{"c -> b -> a", "11111101"},
		{"~a & ~b & ~c & d", "0000000010000000"},
		{"f & ~(a | b | c | d | e)", strings.Repeat("0", 32) + "1" + strings.Repeat("0", 31)},
		{mostNames, strings.Repeat("0", 63) + "1"},
	} {
		got, e := rows(t, c.f, parse(t, c.f))
		sameFault(t, c.f, e, api.Fault{})
		sameList(t, "Rows of "+c.f, got, bits(c.want))
	}
}

func TestRowsAndValidOfTooManyNames(t *testing.T) {
	for _, text := range []string{oneNameMore, manyButValid, "a & b & c & d & e & f -> a | g", mostNames + " & abcdefgh"} {
		_, e := rows(t, text, parse(t, text))
		sameFault(t, "Rows of "+text, e, fault(api.ErrMany, 0))
		_, _, e = valid(t, text, parse(t, text))
		sameFault(t, "Valid of "+text, e, fault(api.ErrMany, 0))
	}
}

func TestValid(t *testing.T) {
	for _, c := range []struct {
		f       string
		want    bool
		counter string
	}{
		{"1", true, ""},
		{"0", false, ""},
		{"p", false, ""},
		{"~p", false, "p"},
		{"p | ~p", true, ""},
		{"p -> q", false, "p"},
		{"q -> p", false, "q"},
		{"p -> p", true, ""},
		{"((p -> q) -> p) -> p", true, ""},
		{"~(p & q)", false, "p q"},
		{"~(q & p)", false, "p q"},
		{"~(p & r) & ~(q & r)", false, "p r"},
		{"~(b & c) & ~(a & d)", false, "b c"},
		{"~(a & d) & ~e", false, "a d"},
		{"~(z & b & ~k)", false, "b z"},
		{"(p -> q) -> ~q -> ~p", true, ""},
		{"(p -> q -> r) -> (p -> q) -> p -> r", true, ""},
		{"~(" + mostNames + ")", false, "a b c d e f"},
		{mostNames + " -> f", true, ""},
		{mostNames, false, ""},
	} {
		is, counter, e := valid(t, c.f, parse(t, c.f))
		sameFault(t, c.f, e, api.Fault{})
		if is != c.want {
			t.Errorf("Valid of %s: %v", c.f, is)
		}
		sameList(t, "Valid of "+c.f, counter, words(c.counter))
	}
}

// TestSmallFormulas holds all that is asked of a formula against rows that are worked out another way.
func TestSmallFormulas(t *testing.T) {
	for _, f := range smallFormulas(6) {
		agrees(t, f, "q p")
	}
}

func TestFormulasOfManyNames(t *testing.T) {
	for _, text := range []string{
		"a -> b | c & ~d -> (e -> f) & (b -> ~a)",
		"(a & b | c & d | e & f) & ~(a & c & e)",
		"((a -> b) -> (c -> d)) -> ((e -> f) -> 0) | ~a",
		"(f -> e) & (e -> d) & (d -> c) & (c -> b) & (b -> a) -> (f -> a)",
	} {
		agrees(t, parse(t, text), "")
	}
	for _, text := range []string{"d & ~a | b & ~c", "(a -> d) -> c | ~b", "a & ~d", "1 -> c"} {
		agrees(t, parse(t, text), "c a d b")
	}
}

// agrees looks at Rows, Valid and Value of f, and at Made of it with these names, if there are any.
func agrees(t *testing.T, f api.Formula, order string) {
	t.Helper()
	text := printed(t, f)
	names := namesIn(f)
	want := firstDigits(rowsAtOnce(f, names), 1<<len(names))
	got, e := rows(t, text, f)
	sameFault(t, text, e, api.Fault{})
	sameList(t, "Rows of "+text, got, want)

	is, counter, e := valid(t, text, f)
	sameFault(t, text, e, api.Fault{})
	row := slices.Index(want, false)
	if is != (row < 0) {
		t.Errorf("Valid of %s: %v", text, is)
	}
	sameList(t, "Valid of "+text, counter, namesAt(max(row, 0), names))

	for row, w := range want {
		v, e := value(t, text, f, namesAt(row, names))
		if v != w || e != (api.Fault{}) {
			t.Errorf("Value of %s in row %d: %v, %v", text, row, v, e)
		}
	}
	if l := words(order); len(l) > 0 {
		m, e := made(t, text, f, l)
		sameFault(t, text, e, api.Fault{})
		sameList(t, "Made of "+text, m.Bits, firstDigits(rowsAtOnce(f, l), 1<<len(l)))
	}
}

func namesIn(f api.Formula) []string {
	var l []string
	if f.Kind == api.FVar {
		l = append(l, f.Name)
	}
	for _, k := range f.Kids {
		l = append(l, namesIn(k)...)
	}
	slices.Sort(l)
	return slices.Compact(l)
}

func namesAt(row int, names []string) []string {
	var l []string
	for i, s := range names {
		if row>>i&1 == 1 {
			l = append(l, s)
		}
	}
	return l
}

func firstDigits(w uint64, n int) []bool {
	l := make([]bool, n)
	for i := range l {
		l[i] = w>>i&1 == 1
	}
	return l
}
