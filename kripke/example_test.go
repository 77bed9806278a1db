package kripke_test

import (
	"fmt"

	"sequent/api"
	"sequent/formula"
	"sequent/kripke"
)

func ExampleForces() {
	m := api.Model{N: 2, Rel: [][2]int{{0, 0}, {0, 1}, {1, 1}}, True: [][]string{nil, {"p"}}}
	f, _ := formula.Parse("p | ~p")
	fmt.Println(kripke.Forces(m, f))
	// Output: [false true] {0 0}
}

func ExampleProve() {
	f, _ := formula.Parse("p | ~p")
	_, counter, valid, _ := kripke.Prove(api.Sequent{Right: []api.Formula{f}})
	fmt.Println(valid, counter)

	f, _ = formula.Parse("~~(p | ~p)")
	proof, _, valid, _ := kripke.Prove(api.Sequent{Right: []api.Formula{f}})
	fmt.Println(valid, proof.Rule, proof.Kids[0].Rule)
	// Output:
	// false {2 [[0 0] [0 1] [1 1]] [[] [p]]}
	// true not-r contr-l
}
