package cut_test

import (
	"fmt"

	"sequent/api"
	"sequent/cut"
	"sequent/formula"
)

// Example takes a cut with p | ~p to => p | ~p.
func Example() {
	or, _ := formula.Parse("p | ~p")
	once, twice := []api.Formula{or}, []api.Formula{or, or}
	p, not := or.Kids[0], or.Kids[1]
	ax := api.Proof{Rule: "ax", F: p, End: api.Sequent{Left: []api.Formula{p}, Right: []api.Formula{p}}}
	notR := api.Proof{Rule: "not-r", F: not, End: api.Sequent{Right: []api.Formula{p, not}}, Kids: []api.Proof{ax}}
	orR := api.Proof{Rule: "or-r", F: or, End: api.Sequent{Right: once}, Kids: []api.Proof{notR}}
	proof := api.Proof{Rule: "cut", F: or, End: api.Sequent{Right: once}, Kids: []api.Proof{
		{Rule: "weak", End: api.Sequent{Right: twice}, Kids: []api.Proof{orR}},
		{Rule: "ax", F: or, End: api.Sequent{Left: once, Right: once}},
	}}
	fmt.Println(cut.Measure(proof, false))
	without, _ := cut.Eliminate(proof, false)
	fmt.Println(without.Rule, without.Kids[0].Rule, without.Kids[0].Kids[0].Rule)
	fmt.Println(cut.Measure(without, false))
	// Output:
	// 6 5 4 {0 0}
	// or-r not-r ax
	// 3 3 0 {0 0}
}
