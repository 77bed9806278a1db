package bisim_test

import (
	"fmt"

	"sequent/api"
	"sequent/bisim"
	"sequent/formula"
)

// Of two worlds without names the first sees the second.
func ExampleTell() {
	m := api.Model{N: 2, Rel: [][2]int{{0, 1}}, True: [][]string{nil, nil}}
	fmt.Println(bisim.Classes(m))
	f, _ := bisim.Tell(m, 0, 1)
	fmt.Println(formula.Print(f))
	// Output:
	// [0 1] {0 0}
	// <>1 {0 0}
}

func ExampleShrink() {
	m := api.Model{N: 4, Rel: [][2]int{{0, 1}, {2, 3}, {2, 1}}, True: [][]string{nil, {"p"}, nil, {"p", "p"}}}
	fmt.Println(bisim.Shrink(m))
	// Output: {2 [[0 1]] [[] [p]]} {0 0}
}
