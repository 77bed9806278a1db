package truth_test

import (
	"slices"
	"strings"
	"testing"

	"sequent/api"
	"sequent/formula"
	"sequent/truth"
)

func fault(code, at int) api.Fault { return api.Fault{Code: code, At: at} }

func name(s string) api.Formula { return api.Formula{Kind: api.FVar, Name: s} }

func node(kind int, kids ...api.Formula) api.Formula {
	return api.Formula{Kind: kind, Kids: kids}
}

// nots is f below so many FNot.
func nots(n int, f api.Formula) api.Formula {
	for range n {
		f = node(api.FNot, f)
	}
	return f
}

// endless holds itself.
func endless() api.Formula {
	kids := make([]api.Formula, 1)
	kids[0] = api.Formula{Kind: api.FNot, Kids: kids}
	return kids[0]
}

func parse(t *testing.T, text string) api.Formula {
	t.Helper()
	f, e := formula.Parse(text)
	if e != (api.Fault{}) {
		t.Fatalf("Parse(%q): %v", text, e)
	}
	return f
}

func printed(t *testing.T, f api.Formula) string {
	t.Helper()
	text, e := formula.Print(f)
	if e != (api.Fault{}) {
		t.Fatalf("Print: %v", e)
	}
	return text
}

// words are the names in a text; none in "".
func words(text string) []string { return strings.Fields(text) }

// bits are written as digits, the row 0 first.
func bits(text string) []bool {
	var l []bool
	for _, c := range text {
		l = append(l, c == '1')
	}
	return l
}

func table(text string) api.Table {
	t := api.Table{Bits: bits(text)}
	for 1<<t.N < len(text) {
		t.N++
	}
	return t
}

// tableOf has the rows that the digits of number tell.
func tableOf(n, number int) api.Table {
	t := api.Table{N: n, Bits: make([]bool, 1<<n)}
	for row := range t.Bits {
		t.Bits[row] = number>>row&1 == 1
	}
	return t
}

func sameFault(t *testing.T, what string, got, want api.Fault) {
	t.Helper()
	if got != want {
		t.Errorf("%s: fault %v, want %v", what, got, want)
	}
}

func sameList[T comparable](t *testing.T, what string, got, want []T) {
	t.Helper()
	if !slices.Equal(got, want) {
		t.Errorf("%s: %v, want %v", what, got, want)
	}
}

// The calls below fail if something is answered beside a fault.

func value(t *testing.T, what string, f api.Formula, holds []string) (bool, api.Fault) {
	t.Helper()
	is, e := truth.Value(f, holds)
	if e.Code != api.OK && is {
		t.Errorf("Value of %s: true beside the fault %v", what, e)
	}
	return is, e
}

func rows(t *testing.T, what string, f api.Formula) ([]bool, api.Fault) {
	t.Helper()
	l, e := truth.Rows(f)
	if e.Code != api.OK && len(l) != 0 {
		t.Errorf("Rows of %s: %v beside the fault %v", what, l, e)
	}
	return l, e
}

func valid(t *testing.T, what string, f api.Formula) (bool, []string, api.Fault) {
	t.Helper()
	is, l, e := truth.Valid(f)
	if e.Code != api.OK && (is || len(l) != 0) {
		t.Errorf("Valid of %s: %v, %v beside the fault %v", what, is, l, e)
	}
	return is, l, e
}

func made(t *testing.T, what string, f api.Formula, names []string) (api.Table, api.Fault) {
	t.Helper()
	m, e := truth.Made(f, names)
	if e.Code != api.OK && (m.N != 0 || len(m.Bits) != 0) {
		t.Errorf("Made of %s: %v beside the fault %v", what, m, e)
	}
	return m, e
}

func complete(t *testing.T, what string, l []api.Table) (bool, [5]bool, api.Fault) {
	t.Helper()
	is, all, e := truth.Complete(l)
	if e.Code != api.OK && (is || all != [5]bool{}) {
		t.Errorf("Complete of %s: %v, %v beside the fault %v", what, is, all, e)
	}
	return is, all, e
}

// smallFormulas are all plain ones of so many nodes at most, of p, q, true and false.
func smallFormulas(most int) []api.Formula {
	bySize := make([][]api.Formula, most+1)
	bySize[1] = []api.Formula{name("p"), name("q"), node(api.FTrue), node(api.FFalse)}
	var all []api.Formula
	for size := 1; size <= most; size++ {
		for _, f := range bySize[size-1] {
			bySize[size] = append(bySize[size], node(api.FNot, f))
		}
		for left := 1; left < size-1; left++ {
			for _, f := range bySize[left] {
				for _, g := range bySize[size-1-left] {
					bySize[size] = append(bySize[size], node(api.FAnd, f, g), node(api.FOr, f, g), node(api.FThen, f, g))
				}
			}
		}
		all = append(all, bySize[size]...)
	}
	return all
}

// rowsAtOnce works out 64 rows as the digits of one word: another way than the program's.
func rowsAtOnce(f api.Formula, names []string) uint64 {
	kid := func(i int) uint64 { return rowsAtOnce(f.Kids[i], names) }
	switch f.Kind {
	case api.FVar:
		var w uint64
		for row := range 64 {
			w |= uint64(row>>slices.Index(names, f.Name)&1) << row
		}
		return w
	case api.FTrue:
		return ^uint64(0)
	case api.FNot:
		return ^kid(0)
	case api.FAnd:
		return kid(0) & kid(1)
	case api.FOr:
		return kid(0) | kid(1)
	case api.FThen:
		return ^kid(0) | kid(1)
	}
	return 0
}
