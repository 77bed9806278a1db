package modlog_test

import (
	"fmt"

	"sequent/formula"
	"sequent/modlog"
)

// Loeb's formula is valid in GL, and not in S4; []p -> p the other way round.
func ExampleDecide() {
	const s4, gl = 5, 8
	for _, s := range []string{"[]([]p -> p) -> []p", "[]p -> p"} {
		f, _ := formula.Parse(s)
		fmt.Println(modlog.Decide(gl, f))
		fmt.Println(modlog.Decide(s4, f))
	}
	// Output:
	// true {0 [] []} {0 0}
	// false {1 [[0 0]] [[]]} {0 0}
	// false {1 [] [[]]} {0 0}
	// true {0 [] []} {0 0}
}

func ExampleBoxed() {
	f, _ := formula.Parse("p -> ~q | 0")
	g, _ := modlog.Boxed(f)
	fmt.Println(formula.Print(g))
	// Output: []([]p -> []~[]q | 0) {0 0}
}
