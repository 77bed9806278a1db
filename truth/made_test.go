package truth_test

import (
	"strings"
	"testing"

	"sequent/api"
)

func TestMade(t *testing.T) {
	for _, c := range []struct{ f, names, want string }{
		{"1", "", "1"},
		{"0", "", "0"},
		{"1", "p", "11"},
		{"0", "p q", "0000"},
		{"p", "p", "01"},
		{"~p", "p", "10"},
		{"q", "q p", "0101"},
		{"q", "p q", "0011"},
		{"p -> q", "p q", "1011"},
		{"p -> q", "q p", "1101"},
		{"p -> q", "z q p", "11110011"},
		{"~(p & q)", "p q", "1110"},
		{"a", "b c d a", "0000000011111111"},
		{"a", "a b c d", "0101010101010101"},
		{"a & ~b & c & ~d", "d b c a", "0000000000001000"},
		{"a & ~b & c & ~d", "a b c d", "0000010000000000"},
		{"abcdefgh", "p abcdefgh", "0011"},
	} {
		what := "Made of " + c.f + " by " + c.names
		got, e := made(t, what, parse(t, c.f), words(c.names))
		sameFault(t, what, e, api.Fault{})
		if n := len(words(c.names)); got.N != n {
			t.Errorf("%s: N is %d, want %d", what, got.N, n)
		}
		sameList(t, what, got.Bits, bits(c.want))
	}
}

func TestMadeFaults(t *testing.T) {
	for _, c := range []struct {
		what, f string
		names   []string
		want    api.Fault
	}{
		{"four names", "p", words("p q r s"), api.Fault{}},
		{"five names", "p", words("p q r s t"), fault(api.ErrMany, 0)},
		{"very many", "p", make([]string, 1<<20), fault(api.ErrMany, 0)},
		{"too many ahead of no name", "p", words("P q r s t"), fault(api.ErrMany, 0)},
		{"too many ahead of a name twice", "p", words("p p p p p"), fault(api.ErrMany, 0)},
		{"too many ahead of one that lacks", "z", words("p q r s t"), fault(api.ErrMany, 0)},
		{"empty name", "p", []string{"p", ""}, fault(api.ErrName, 1)},
		{"capital", "p", words("P"), fault(api.ErrName, 0)},
		{"nine letters", "p", words("p q abcdefghi"), fault(api.ErrName, 2)},
		{"digit", "p", words("p q r s1"), fault(api.ErrName, 3)},
		{"very long", "p", []string{"p", strings.Repeat("a", 1<<20)}, fault(api.ErrName, 1)},
		{"twice", "p", words("p p"), fault(api.ErrName, 1)},
		{"twice, apart", "p", words("p q r p"), fault(api.ErrName, 3)},
		{"twice, what f has not", "1", words("p q q"), fault(api.ErrName, 2)},
		{"twice ahead of no name", "p", words("p p P"), fault(api.ErrName, 1)},
		{"no name ahead of twice", "p", words("p P p"), fault(api.ErrName, 1)},
		{"no name twice", "p", words("P P"), fault(api.ErrName, 0)},
		{"no name ahead of one that lacks", "z", words("p Q"), fault(api.ErrName, 1)},
		{"twice ahead of one that lacks", "z", words("p p"), fault(api.ErrName, 1)},
		{"lacks", "r", words("q p"), fault(api.ErrNone, 0)},
		{"lacks the second", "p & q", words("p r"), fault(api.ErrNone, 0)},
		{"lacks the first", "p & q", words("q r"), fault(api.ErrNone, 0)},
		{"lacks all", "p", nil, fault(api.ErrNone, 0)},
		{"lacks what does not matter", "p | 1", words("q"), fault(api.ErrNone, 0)},
		{"lacks a longer one", "pp", words("p q"), fault(api.ErrNone, 0)},
		{"lacks one of five", "a & b & c & d & e", words("a b c d"), fault(api.ErrNone, 0)},
		{"lacks one of very many", oneNameMore, words("a b c d"), fault(api.ErrNone, 0)},
	} {
		_, e := made(t, c.what, parse(t, c.f), c.names)
		sameFault(t, c.what, e, c.want)
	}
}
