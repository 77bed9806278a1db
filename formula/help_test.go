package formula_test

import (
	"reflect"
	"strings"
	"testing"

	"sequent/api"
	"sequent/formula"
)

func fault(code, at int) api.Fault { return api.Fault{Code: code, At: at} }

func name(s string) api.Formula { return api.Formula{Kind: api.FVar, Name: s} }

func node(kind int, kids ...api.Formula) api.Formula {
	return api.Formula{Kind: kind, Kids: kids}
}

// nots is p below so many FNot: one node more than that.
func nots(n int) api.Formula {
	f := name("p")
	for range n {
		f = node(api.FNot, f)
	}
	return f
}

// endless holds itself.
func endless() api.Formula {
	kids := make([]api.Formula, 1)
	kids[0] = api.Formula{Kind: api.FNot, Kids: kids}
	return kids[0]
}

// doubled is a formula with 2^n leaves, though only n lists are made.
func doubled(n int) api.Formula {
	f := name("p")
	for range n {
		f = node(api.FAnd, f, f)
	}
	return f
}

func parse(t *testing.T, text string) api.Formula {
	t.Helper()
	f, e := formula.Parse(text)
	if e != (api.Fault{}) {
		t.Fatalf("Parse(%q): %v", text, e)
	}
	return f
}

func sameFault(t *testing.T, what string, got, want api.Fault) {
	t.Helper()
	if got != want {
		t.Errorf("%s: fault %v, want %v", what, got, want)
	}
}

// plainForm takes empty Kids for none, as the document does.
func plainForm(f api.Formula) api.Formula {
	out := api.Formula{Kind: f.Kind, Name: f.Name}
	for _, k := range f.Kids {
		out.Kids = append(out.Kids, plainForm(k))
	}
	return out
}

func isSame(f, g api.Formula) bool {
	return reflect.DeepEqual(plainForm(f), plainForm(g))
}

func sameFormula(t *testing.T, what string, got, want api.Formula) {
	t.Helper()
	if !isSame(got, want) {
		t.Errorf("%s: %v, want %v", what, told(got), told(want))
	}
}

func isZero(f api.Formula) bool {
	return f.Kind == 0 && f.Name == "" && len(f.Kids) == 0
}

// told writes any formula with all its brackets, without the package's own Print.
func told(f api.Formula) string {
	signs := [...]string{"?", "", "1", "0", "~", "&", "|", "->", "[]", "<>"}
	sign := "?"
	if f.Kind > 0 && f.Kind < len(signs) {
		sign = signs[f.Kind]
	}
	var kids []string
	for _, k := range f.Kids {
		kids = append(kids, told(k))
	}
	if len(kids) == 0 {
		return sign + f.Name
	}
	return sign + f.Name + "(" + strings.Join(kids, ", ") + ")"
}

// faulty is a formula and the fault that each call tells of it.
type faulty struct {
	what string
	f    api.Formula
	want api.Fault
}

func faultyFormulas() []faulty {
	p := name("p")
	deepBad := func(at int) api.Formula {
		f := api.Formula{Kind: 77}
		for range at {
			f = node(api.FNot, f)
		}
		return f
	}
	l := []faulty{
		{"zero formula", api.Formula{}, fault(api.ErrKind, 0)},
		{"kind ahead of size and name", api.Formula{Kind: 10, Name: "P", Kids: []api.Formula{p, p, p}}, fault(api.ErrKind, 0)},
		{"size ahead of name, var", api.Formula{Kind: api.FVar, Name: "P", Kids: []api.Formula{p}}, fault(api.ErrSize, 0)},
		{"size ahead of name, not", api.Formula{Kind: api.FNot, Name: "p"}, fault(api.ErrSize, 0)},
		{"node ahead of its kids", node(api.FNot, api.Formula{}, api.Formula{}), fault(api.ErrSize, 0)},
		{"name ahead of its kids", api.Formula{Kind: api.FNot, Name: "p", Kids: []api.Formula{{}}}, fault(api.ErrName, 0)},
		{"first kid ahead of second", node(api.FAnd, name("P"), api.Formula{}), fault(api.ErrName, 1)},
		{"what is in the first kid ahead of the second", node(api.FOr, node(api.FNot, name("")), api.Formula{}), fault(api.ErrName, 2)},
		{"behind a whole first kid", node(api.FThen, node(api.FAnd, p, node(api.FBox, p)), node(api.FOr, p, node(api.FDia))), fault(api.ErrSize, 7)},
		{"one node too many", nots(api.MaxNodes), fault(api.ErrMany, 0)},
		{"fault at the last node that is looked at", deepBad(api.MaxNodes - 1), fault(api.ErrKind, api.MaxNodes-1)},
		{"fault behind the last node", deepBad(api.MaxNodes), fault(api.ErrMany, 0)},
		{"fault ahead of too many", node(api.FAnd, name("p q"), nots(300)), fault(api.ErrName, 1)},
		{"too many ahead of a fault", node(api.FAnd, nots(300), api.Formula{}), fault(api.ErrMany, 0)},
		{"very many kids", node(api.FAnd, make([]api.Formula, 1<<20)...), fault(api.ErrSize, 0)},
		{"endless", endless(), fault(api.ErrMany, 0)},
		{"doubled", doubled(60), fault(api.ErrMany, 0)},
	}
	for _, kind := range []int{-1 << 63, -1, 0, 10, 11, 1<<63 - 1} {
		l = append(l, faulty{"no such kind", node(api.FBox, api.Formula{Kind: kind}), fault(api.ErrKind, 1)})
	}
	for _, s := range []string{"", "P", "pQ", "abcdefghi", "p1", "1", "p q", " p", "p\n", "\x00", "`", "{", "a{", "é", "\xff", strings.Repeat("a", 1<<20)} {
		l = append(l, faulty{"no name " + s[:min(len(s), 9)], node(api.FAnd, p, name(s)), fault(api.ErrName, 2)})
	}
	return append(l, faultyKids()...)
}

// faultyKids has each kind with each number of Kids that it may not have, and with a name.
func faultyKids() []faulty {
	var l []faulty
	for kind, kids := range []int{api.FVar: 0, api.FTrue: 0, api.FFalse: 0, api.FNot: 1, api.FAnd: 2, api.FOr: 2, api.FThen: 2, api.FBox: 1, api.FDia: 1} {
		if kind == 0 {
			continue
		}
		for n := range 4 {
			f := api.Formula{Kind: kind}
			for range n {
				f.Kids = append(f.Kids, name("p"))
			}
			if kind == api.FVar {
				f.Name = "p"
			}
			if n != kids {
				l = append(l, faulty{"size of " + told(f), node(api.FDia, f), fault(api.ErrSize, 1)})
			} else if kind != api.FVar {
				f.Name = "p"
				l = append(l, faulty{"name of " + told(f), node(api.FDia, f), fault(api.ErrName, 1)})
			}
		}
	}
	return l
}
