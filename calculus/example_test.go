package calculus_test

import (
	"fmt"

	"sequent/api"
	"sequent/calculus"
	"sequent/formula"
)

func Example() {
	or, _ := formula.Parse("p | ~p")
	p, not := or.Kids[0], or.Kids[1]
	proof := api.Proof{Rule: "or-r", F: or, End: api.Sequent{Right: []api.Formula{or}}, Kids: []api.Proof{
		{Rule: "not-r", F: not, End: api.Sequent{Right: []api.Formula{p, not}}, Kids: []api.Proof{
			{Rule: "ax", F: p, End: api.Sequent{Left: []api.Formula{p}, Right: []api.Formula{p}}},
		}},
	}}
	cuts, fault := calculus.Cuts(proof, false)
	fmt.Println(calculus.CheckSequent(proof.End) == api.Fault{})
	fmt.Println(calculus.Check(proof, false) == api.Fault{})
	fmt.Println(calculus.Check(proof, true).Code == api.ErrKind)
	fmt.Println(cuts, fault.Code == api.OK)
	// Output:
	// true
	// true
	// true
	// 0 true
}
