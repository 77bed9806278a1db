package formula_test

import (
	"reflect"
	"testing"
	"unsafe"

	"sequent/api"
	"sequent/formula"
)

// places tells where the elements of all lists in f lie, those behind a list's length, too.
func places(f api.Formula) []*api.Formula {
	var l []*api.Formula
	all := f.Kids[:cap(f.Kids)]
	for i := range all {
		l = append(l, &all[i])
	}
	for _, k := range f.Kids {
		l = append(l, places(k)...)
	}
	return l
}

// sharesNone fails, if two of the lists in the answer, or one of them and one handed in, share memory.
func sharesNone(t *testing.T, what string, handedIn []api.Formula, answer ...api.Formula) {
	t.Helper()
	taken := map[*api.Formula]bool{}
	for _, f := range handedIn {
		for _, p := range places(f) {
			taken[p] = true
		}
	}
	all := answer[:cap(answer)]
	for i := range all {
		taken[&all[i]] = true
	}
	for _, f := range answer {
		for _, p := range places(f) {
			if taken[p] {
				t.Fatalf("%s: memory is shared", what)
			}
			taken[p] = true
		}
	}
}

// roomy is f with lists that go on behind their length, with what is no formula.
func roomy(f api.Formula) api.Formula {
	kids := make([]api.Formula, 0, len(f.Kids)+2)
	for _, k := range f.Kids {
		kids = append(kids, roomy(k))
	}
	behind := kids[:cap(kids)]
	for i := len(kids); i < cap(kids); i++ {
		behind[i] = api.Formula{Kind: -7, Name: "BEHIND"}
	}
	return api.Formula{Kind: f.Kind, Name: f.Name, Kids: kids}
}

// everything copies f with what lies behind its lists.
func everything(f api.Formula) api.Formula {
	out := api.Formula{Kind: f.Kind, Name: f.Name}
	for _, k := range f.Kids[:cap(f.Kids)] {
		out.Kids = append(out.Kids, everything(k))
	}
	return out
}

func TestListsAreOnlyRead(t *testing.T) {
	f := roomy(parse(t, "q & ~p -> [](q & ~p) | <>1 | p"))
	g := roomy(parse(t, "r & (q -> p)"))
	wasF, wasG := everything(f), everything(g)
	sameFault(t, "Check", formula.Check(f), api.Fault{})
	if s := printed(t, f); s != "q & ~p -> [](q & ~p) | <>1 | p" {
		t.Errorf("Print: %q", s)
	}
	names, _ := formula.Names(f)
	parts, _ := formula.Parts(f)
	put, _ := formula.Put(f, "p", g)
	if !reflect.DeepEqual(names, []string{"p", "q"}) || len(parts) != 10 {
		t.Errorf("Names: %q, %d Parts", names, len(parts))
	}
	sameFormula(t, "Put", put, parse(t, "q & ~(r & (q -> p)) -> [](q & ~(r & (q -> p))) | <>1 | r & (q -> p)"))
	if !reflect.DeepEqual(everything(f), wasF) || !reflect.DeepEqual(everything(g), wasG) {
		t.Errorf("what was handed in is changed: %s, %s", told(f), told(g))
	}
}

func TestAnswersAreNewMemory(t *testing.T) {
	shared := parse(t, "p -> ~q")
	f := roomy(node(api.FAnd, shared, node(api.FOr, shared, shared)))
	g := roomy(parse(t, "r & r"))

	sharesNone(t, "Parse", nil, parse(t, "p & q & ~(p & q) -> []<>1 -> p"))
	parts, _ := formula.Parts(f)
	sharesNone(t, "Parts", []api.Formula{f}, parts...)
	for _, name := range []string{"p", "q", "s"} {
		put, _ := formula.Put(f, name, g)
		sharesNone(t, "Put for "+name, []api.Formula{f, g}, put)
	}
	alone := name("p")
	put, _ := formula.Put(alone, "p", g)
	sharesNone(t, "Put for all", []api.Formula{g}, put)
	put, _ = formula.Put(f, "p", f)
	sharesNone(t, "Put into itself", []api.Formula{f}, put)
}

// within: is s a piece of the memory of whole?
func within(s, whole string) bool {
	at, from := uintptr(unsafe.Pointer(unsafe.StringData(s))), uintptr(unsafe.Pointer(unsafe.StringData(whole)))
	return at >= from && at < from+uintptr(len(whole))
}

func TestTextsAreNotKept(t *testing.T) {
	text := string([]byte("~letters"))
	f := parse(t, text)
	if within(f.Kids[0].Name, text) {
		t.Errorf("Parse keeps the text")
	}
	names, _ := formula.Names(f)
	parts, _ := formula.Parts(f)
	put, _ := formula.Put(f, "p", f)
	for what, s := range map[string]string{"Names": names[0], "Parts": parts[1].Name, "Put": put.Kids[0].Name} {
		if within(s, f.Kids[0].Name) {
			t.Errorf("%s keeps a name of what was handed in", what)
		}
	}
}

func TestAnswersHangOnArgumentsAlone(t *testing.T) {
	const text = "b & (a -> ~b) | c -> [](b & a) & <>(c | a)"
	var first []any
	for range 20 {
		f := parse(t, text)
		s, _ := formula.Print(f)
		names, _ := formula.Names(f)
		parts, _ := formula.Parts(f)
		put, _ := formula.Put(f, "a", f)
		now := []any{f, s, names, parts, put}
		if first == nil {
			first = now
		}
		if !reflect.DeepEqual(now, first) {
			t.Fatalf("%v, and then %v", first, now)
		}
	}
}
