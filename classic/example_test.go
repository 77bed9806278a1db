package classic_test

import (
	"fmt"

	"sequent/api"
	"sequent/classic"
	"sequent/formula"
)

func ExampleProve() {
	f, _ := formula.Parse("p | ~p")
	proof, _, valid, _ := classic.Prove(api.Sequent{Right: []api.Formula{f}})
	fmt.Println(valid, proof.Rule, proof.Kids[0].Rule, proof.Kids[0].Kids[0].Rule)

	or, _ := formula.Parse("p | q")
	_, counter, valid, _ := classic.Prove(api.Sequent{Left: []api.Formula{or}, Right: []api.Formula{or.Kids[0]}})
	fmt.Println(valid, counter)
	// Output:
	// true or-r not-r ax
	// false [q]
}
