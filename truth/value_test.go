package truth_test

import (
	"strings"
	"testing"

	"sequent/api"
)

func TestValue(t *testing.T) {
	for _, c := range []struct {
		f, holds string
		want     bool
	}{
		{"p", "", false},
		{"p", "p", true},
		{"p", "q", false},
		{"1", "", true},
		{"0", "", false},
		{"0", "p", false},
		{"~p", "", true},
		{"~p", "p", false},
		{"p & q", "", false},
		{"p & q", "p", false},
		{"p & q", "q", false},
		{"p & q", "q p", true},
		{"p | q", "", false},
		{"p | q", "p", true},
		{"p | q", "q", true},
		{"p | q", "p q", true},
		{"p -> q", "", true},
		{"p -> q", "p", false},
		{"p -> q", "q", true},
		{"p -> q", "p q", true},
		{"p & ~q", "p", true},
		{"p & ~q", "p p r p", true},
		{"p & ~q", "p q", false},
		{"p -> q -> r", "p q", false},
		{"(p -> q) -> r", "", false},
		{"p & pp", "p", false},
		{"p & pp", "pp", false},
		{"p & abcdefgh", "p abcdefgh", true},
		{"abcdefgh", "abcdefg", false},
	} {
		is, e := value(t, c.f, parse(t, c.f), words(c.holds))
		sameFault(t, c.f, e, api.Fault{})
		if is != c.want {
			t.Errorf("Value of %s, where %s: %v", c.f, c.holds, is)
		}
	}
}

func TestValueFaults(t *testing.T) {
	many := func(n int) []string {
		l := make([]string, n)
		for i := range l {
			l[i] = "p"
		}
		return l
	}
	manyButOne := func(n, at int, s string) []string {
		l := many(n)
		l[at] = s
		return l
	}
	for _, c := range []struct {
		what  string
		holds []string
		want  api.Fault
	}{
		{"most", many(api.MaxList), api.Fault{}},
		{"one too many", many(api.MaxList + 1), fault(api.ErrMany, 0)},
		{"very many", many(1 << 20), fault(api.ErrMany, 0)},
		{"too many ahead of no name", manyButOne(api.MaxList+1, 0, "P"), fault(api.ErrMany, 0)},
		{"the last of most", manyButOne(api.MaxList, api.MaxList-1, "P"), fault(api.ErrName, api.MaxList-1)},
		{"empty name", []string{""}, fault(api.ErrName, 0)},
		{"capital", []string{"p", "Q"}, fault(api.ErrName, 1)},
		{"first of two", []string{"p", "q", "p q", "P"}, fault(api.ErrName, 2)},
		{"eight letters", []string{"abcdefgh"}, api.Fault{}},
		{"nine letters", []string{"p", "p", "abcdefghi"}, fault(api.ErrName, 2)},
		{"digit", []string{"p1"}, fault(api.ErrName, 0)},
		{"true", []string{"1"}, fault(api.ErrName, 0)},
		{"other letters", []string{"p", "é"}, fault(api.ErrName, 1)},
		{"behind the letters", []string{"{"}, fault(api.ErrName, 0)},
		{"ahead of the letters", []string{"`"}, fault(api.ErrName, 0)},
		{"no text", []string{"p\xff"}, fault(api.ErrName, 0)},
		{"very long", []string{strings.Repeat("a", 1<<20)}, fault(api.ErrName, 0)},
	} {
		_, e := value(t, c.what, node(api.FTrue), c.holds)
		sameFault(t, c.what, e, c.want)
	}
}

// TestValueOfManyNames: the bound on names is of what is worked out by all rows, not of Value.
func TestValueOfManyNames(t *testing.T) {
	letters := "abcdefghijklmnopqrstuvwxyz"
	var all []string
	for i := range 100 {
		all = append(all, letters[i/10:i/10+1]+letters[i%10:i%10+1])
	}
	f := parse(t, strings.Join(all, " & "))
	for skip := range all {
		holds := append(append([]string{}, all[:skip]...), all[skip+1:]...)
		if is, e := value(t, "all but one", f, holds); is || e != (api.Fault{}) {
			t.Errorf("without %s: %v, %v", all[skip], is, e)
		}
	}
	if is, e := value(t, "all", f, all); !is || e != (api.Fault{}) {
		t.Errorf("all: %v, %v", is, e)
	}
}

func TestValueOfMostNodes(t *testing.T) {
	f := nots(api.MaxNodes-1, name("p"))
	if is, e := value(t, "most nodes", f, []string{"p"}); is || e != (api.Fault{}) {
		t.Errorf("%v, %v", is, e)
	}
	if is, e := value(t, "most nodes", f, nil); !is || e != (api.Fault{}) {
		t.Errorf("%v, %v", is, e)
	}
}
