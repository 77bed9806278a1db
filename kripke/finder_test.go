package kripke

import (
	"testing"

	"sequent/api"
	"sequent/parts"
)

// TestTooManySteps: no sequent is known whose proof is too long, so that a finder is told that a premise is far.
func TestTooManySteps(t *testing.T) {
	p := api.Formula{Kind: api.FVar, Name: "p"}
	table := parts.New()
	and := table.Number(api.Formula{Kind: api.FAnd, Kids: []api.Formula{p, p}})
	start := goal{right: and}
	for _, c := range []struct {
		far, want int
		fits      bool
	}{
		{1, 3, true},
		{(tooMany - 2) / 2, tooMany - 2, true},
		{tooMany / 2, tooMany, false},
		{tooMany, tooMany, false},
	} {
		f := newFinder(table)
		f.ways[goal{right: table.Number(p)}] = []way{{rule: "true"}}
		f.steps[goal{right: table.Number(p)}] = c.far
		if !f.isProved(start) || f.steps[start] != c.want {
			t.Errorf("%d steps: %d, want %d", c.far, f.steps[start], c.want)
		}
		if proof, fits := f.proof(start, nil); fits != c.fits || fits == (proof.Rule == "") {
			t.Errorf("%d steps: %v, %q", c.far, fits, proof.Rule)
		}
	}
}
