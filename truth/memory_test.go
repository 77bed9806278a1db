package truth_test

import (
	"reflect"
	"testing"
	"unsafe"

	"sequent/api"
	"sequent/truth"
)

// roomy is a list that goes on behind its length.
func roomy[T any](l []T, behind ...T) []T {
	n := len(l)
	return append(append([]T{}, l...), behind...)[:n]
}

// everything copies a list with what lies behind its length.
func everything[T any](l []T) []T {
	return append([]T{}, l[:cap(l)]...)
}

// roomyFormula is f with lists that go on behind their length, with what is no formula.
func roomyFormula(f api.Formula) api.Formula {
	var kids []api.Formula
	for _, k := range f.Kids {
		kids = append(kids, roomyFormula(k))
	}
	bad := api.Formula{Kind: -7, Name: "BEHIND"}
	return api.Formula{Kind: f.Kind, Name: f.Name, Kids: roomy(kids, bad, bad)}
}

func everythingIn(f api.Formula) api.Formula {
	out := api.Formula{Kind: f.Kind, Name: f.Name}
	for _, k := range f.Kids[:cap(f.Kids)] {
		out.Kids = append(out.Kids, everythingIn(k))
	}
	return out
}

func TestListsAreOnlyRead(t *testing.T) {
	f := roomyFormula(parse(t, "r & ~p -> (q | p) & 1 | 0"))
	names := roomy(words("r p q"), "q", "P")
	was, wasNames := everythingIn(f), everything(names)

	if is, e := truth.Value(f, names[:1]); is || e != (api.Fault{}) {
		t.Errorf("Value: %v, %v", is, e)
	}
	column, _ := truth.Rows(f)
	sameList(t, "Rows", column, bits("11110111"))
	_, counter, _ := truth.Valid(f)
	sameList(t, "Valid", counter, words("r"))
	m, _ := truth.Made(f, names)
	sameList(t, "Made", m.Bits, bits("10111111"))
	if !reflect.DeepEqual(everythingIn(f), was) || !reflect.DeepEqual(everything(names), wasNames) {
		t.Errorf("what was handed in is changed: %v, %v", f, names)
	}
}

func TestTablesAreOnlyRead(t *testing.T) {
	l := roomy([]api.Table{
		{N: 2, Bits: roomy(bits("0001"), bits("1111")...)},
		{N: 1, Bits: roomy(bits("01"), bits("10")...)},
	}, api.Table{N: -1}, table("1110"))
	var was []api.Table
	for _, x := range l[:cap(l)] {
		was = append(was, api.Table{N: x.N, Bits: everything(x.Bits)})
	}
	is, all, e := truth.Complete(l)
	if is || all != [5]bool{true, true, false, true, false} || e != (api.Fault{}) {
		t.Errorf("Complete: %v, %v, %v", is, all, e)
	}
	for i, x := range l[:cap(l)] {
		if x.N != was[i].N || !reflect.DeepEqual(everything(x.Bits), was[i].Bits) {
			t.Errorf("table %d is changed: %v", i, x)
		}
	}
}

// TestListsMayBeNil: nil and empty are the same.
func TestListsMayBeNil(t *testing.T) {
	f := api.Formula{Kind: api.FNot, Kids: []api.Formula{{Kind: api.FFalse, Kids: []api.Formula{}}}}
	for _, l := range [][]string{nil, {}, words("p q")[:0]} {
		is, e := truth.Value(f, l)
		if !is || e != (api.Fault{}) {
			t.Errorf("Value: %v, %v", is, e)
		}
		m, e := truth.Made(f, l)
		sameFault(t, "Made", e, api.Fault{})
		sameList(t, "Made", m.Bits, bits("1"))
	}
	for _, l := range [][]api.Table{nil, {}, {table("1110")}} {
		_, all, e := truth.Complete(l[:0])
		if all != [5]bool{true, true, true, true, true} || e != (api.Fault{}) {
			t.Errorf("Complete: %v, %v", all, e)
		}
	}
}

// TestAnswersAreNewMemory writes into what is answered, and asks again.
func TestAnswersAreNewMemory(t *testing.T) {
	f := parse(t, "~(p & r) & q -> ~r")
	names := words("r q p")
	for range 3 {
		column, _ := truth.Rows(f)
		sameList(t, "Rows", column, bits("11111101"))
		clear(column[:cap(column)])
		_, counter, _ := truth.Valid(f)
		sameList(t, "Valid", counter, words("q r"))
		clear(counter[:cap(counter)])
		m, _ := truth.Made(f, names)
		sameList(t, "Made", m.Bits, bits("11101111"))
		clear(m.Bits[:cap(m.Bits)])
	}
	sameList(t, "the names", names, words("r q p"))
	if text := printed(t, f); text != "~(p & r) & q -> ~r" {
		t.Errorf("the formula became %s", text)
	}
}

func TestNamesAreNotKept(t *testing.T) {
	f := node(api.FNot, name(string([]byte("letters"))))
	_, counter, _ := truth.Valid(f)
	sameList(t, "Valid", counter, words("letters"))
	if len(counter) == 1 && unsafe.StringData(counter[0]) == unsafe.StringData(f.Kids[0].Name) {
		t.Errorf("Valid keeps a name of what was handed in")
	}
}

func TestAnswersHangOnArgumentsAlone(t *testing.T) {
	f := parse(t, "b & (a -> ~d) | c -> ~(d & a) & (c | a)")
	l := []api.Table{table("0111"), table("10010110")}
	var first []any
	for range 50 {
		is, _ := truth.Value(f, words("d a"))
		column, _ := truth.Rows(f)
		holds, counter, _ := truth.Valid(f)
		m, _ := truth.Made(f, words("d b a c"))
		whole, all, _ := truth.Complete(l)
		now := []any{is, column, holds, counter, m, whole, all}
		if first == nil {
			first = now
		}
		if !reflect.DeepEqual(now, first) {
			t.Fatalf("%v, and then %v", first, now)
		}
	}
}
