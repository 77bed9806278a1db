package formula_test

import (
	"fmt"

	"sequent/api"
	"sequent/formula"
)

func Example() {
	f, _ := formula.Parse("(p&q) -> ((~r)|0)")
	text, _ := formula.Print(f)
	names, _ := formula.Names(f)
	g, _ := formula.Put(f, "q", api.Formula{Kind: api.FTrue})
	put, _ := formula.Print(g)
	_, fault := formula.Parse("p -> ")
	fmt.Println(text)
	fmt.Println(names)
	fmt.Println(put)
	fmt.Println(fault.Code == api.ErrText, fault.At)
	// Output:
	// p & q -> ~r | 0
	// [p q r]
	// p & 1 -> ~r | 0
	// true 5
}
