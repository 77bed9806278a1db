package syntax_test

import (
	"slices"
	"strings"
	"testing"

	"sequent/syntax"
)

func TestWhichNamesThereAre(t *testing.T) {
	for _, s := range []string{"a", "z", "abcdefgh", "zzzzzzzz"} {
		if !syntax.IsVariable(s) || syntax.IsBig(s) || !syntax.IsName(s) {
			t.Errorf("%q is a variable", s)
		}
	}
	for _, s := range []string{"A", "Z", "Az", "AZ", "Abcdefgh", "ABCDEFGH", "AzZaAzZa"} {
		if syntax.IsVariable(s) || !syntax.IsBig(s) || !syntax.IsName(s) {
			t.Errorf("%q is a big name", s)
		}
	}
	for _, s := range []string{"", "abcdefghi", "ABCDEFGHI", "Abcdefghi", "xY", "x1", "X1", "1", "x y", " x", "X ", "x\n", "\x00", "`", "{", "x{", "@", "[", "X[", "é", "X\xff", "x(", strings.Repeat("A", 1<<20)} {
		if syntax.IsVariable(s) || syntax.IsBig(s) || syntax.IsName(s) {
			t.Errorf("%q is a name", s[:min(len(s), 40)])
		}
	}
}

func TestLetters(t *testing.T) {
	letters := "ABCDEFGHIJKLMNOPQRSTUVWXYZabcdefghijklmnopqrstuvwxyz"
	for c := range 256 {
		if got := syntax.IsLetter(byte(c)); got != (strings.IndexByte(letters, byte(c)) >= 0) {
			t.Errorf("%q: %v", rune(c), got)
		}
	}
}

func TestNewNames(t *testing.T) {
	taken := []string{"a", "c", "z", "ab", "zz", "Sa", "Sb", "Saa", "A"}
	for begin, is := range map[string]func(string) bool{"": syntax.IsVariable, "S": syntax.IsBig} {
		names := syntax.NewNames(begin, taken)
		var seen []string
		for range 2000 {
			name := names.Next()
			if !is(name) || !strings.HasPrefix(name, begin) || slices.Contains(taken, name) {
				t.Fatalf("%q: %q is new", begin, name)
			}
			seen = append(seen, name)
		}
		slices.Sort(seen)
		if len(slices.Compact(seen)) != 2000 {
			t.Errorf("%q: a name comes twice", begin)
		}
	}
}

func TestNewNamesCountFromTheFirst(t *testing.T) {
	names := syntax.NewNames("", []string{"b"})
	if a, c := names.Next(), names.Next(); a != "a" || c != "c" {
		t.Errorf("%q, %q", a, c)
	}
}
