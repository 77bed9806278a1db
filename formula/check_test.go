package formula_test

import (
	"testing"

	"sequent/api"
	"sequent/formula"
)

func TestCheckSaysNothingOfFormulas(t *testing.T) {
	p := name("p")
	for _, f := range []api.Formula{
		p, name("a"), name("z"), name("abcdefgh"),
		node(api.FTrue), node(api.FFalse),
		node(api.FNot, p), node(api.FBox, p), node(api.FDia, p),
		node(api.FAnd, p, p), node(api.FOr, p, p), node(api.FThen, p, p),
		{Kind: api.FVar, Name: "p", Kids: []api.Formula{}},
		{Kind: api.FTrue, Kids: []api.Formula{}},
		{Kind: api.FTrue, Kids: []api.Formula{{}, {}}[:0]},
		nots(api.MaxNodes - 1),
		node(api.FAnd, nots(99), nots(98)),
	} {
		sameFault(t, told(f), formula.Check(f), api.Fault{})
	}
}

func TestCheckFaults(t *testing.T) {
	for _, c := range faultyFormulas() {
		sameFault(t, c.what, formula.Check(c.f), c.want)
	}
}

func TestAllTellWhatCheckSays(t *testing.T) {
	for _, c := range faultyFormulas() {
		text, e := formula.Print(c.f)
		sameFault(t, "Print: "+c.what, e, c.want)
		names, e := formula.Names(c.f)
		sameFault(t, "Names: "+c.what, e, c.want)
		parts, e := formula.Parts(c.f)
		sameFault(t, "Parts: "+c.what, e, c.want)
		if text != "" || len(names) != 0 || len(parts) != 0 {
			t.Errorf("%s: something is answered beside the fault", c.what)
		}
		for what, call := range map[string]func() (api.Formula, api.Fault){
			"Put into":             func() (api.Formula, api.Fault) { return formula.Put(c.f, "p", name("q")) },
			"Put into, no name":    func() (api.Formula, api.Fault) { return formula.Put(c.f, "P", name("q")) },
			"Put into, both wrong": func() (api.Formula, api.Fault) { return formula.Put(c.f, "p", node(99)) },
			"Put":                  func() (api.Formula, api.Fault) { return formula.Put(name("p"), "p", c.f) },
			"Put where it is not":  func() (api.Formula, api.Fault) { return formula.Put(name("p"), "q", c.f) },
			"Put, no name":         func() (api.Formula, api.Fault) { return formula.Put(name("p"), "", c.f) },
		} {
			f, e := call()
			sameFault(t, what+": "+c.what, e, c.want)
			if !isZero(f) {
				t.Errorf("%s: %s: a formula is answered beside the fault", what, c.what)
			}
		}
	}
}
