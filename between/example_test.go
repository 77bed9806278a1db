package between_test

import (
	"fmt"

	"sequent/between"
	"sequent/formula"
)

func Example() {
	f, _ := formula.Parse("p & q")
	g, _ := formula.Parse("p | r")
	mid, _ := between.Interpolate(f, g)
	fmt.Println(formula.Print(mid))

	chain, _ := formula.Parse("(p -> q) & (q -> r)")
	said, _ := between.Project(chain, []string{"p", "r"})
	fmt.Println(formula.Print(said))

	law, _ := formula.Parse("(r -> p & q) & (p & q -> r)")
	meant, _ := between.Define(law, "r")
	fmt.Println(formula.Print(meant))
	// Output:
	// p {0 0}
	// p -> r {0 0}
	// p & q {0 0}
}
