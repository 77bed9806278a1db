package modal_test

import (
	"fmt"

	"sequent/api"
	"sequent/formula"
	"sequent/modal"
)

// A world that sees nothing: FBox of 0 is true there.
func ExampleEval() {
	m := api.Model{N: 1, True: [][]string{nil}}
	f, _ := formula.Parse("[]0")
	fmt.Println(modal.Eval(m, f))
	// Output: [true] {0 0}
}

func Example() {
	m := api.Model{N: 3, Rel: [][2]int{{0, 1}, {1, 2}, {0, 2}}, True: [][]string{{"p"}, {"p"}, nil}}
	f, _ := formula.Parse("<>p -> []p")
	fmt.Println(modal.Eval(m, f))
	fmt.Println(modal.Holds(m, f))
	loeb, _ := formula.Parse("[]([]p -> p) -> []p")
	fmt.Println(modal.Holds(m, loeb))
	fmt.Println(modal.Shape(m))
	// Output:
	// [false true true] {0 0}
	// false {0 0}
	// true {0 0}
	// [false true false false false true] {0 0}
}
