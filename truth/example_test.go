package truth_test

import (
	"fmt"

	"sequent/api"
	"sequent/formula"
	"sequent/truth"
)

func Example() {
	f, _ := formula.Parse("p -> q")
	value, _ := truth.Value(f, []string{"p"})
	rows, _ := truth.Rows(f)
	valid, counter, _ := truth.Valid(f)
	table, _ := truth.Made(f, []string{"q", "p"})
	nand := api.Table{N: 2, Bits: []bool{true, true, true, false}}
	complete, classes, _ := truth.Complete([]api.Table{nand})
	fmt.Println(value)
	fmt.Println(rows)
	fmt.Println(valid, counter)
	fmt.Println(table)
	fmt.Println(complete, classes)
	// Output:
	// false
	// [true false true true]
	// false [p]
	// {2 [true true false true]}
	// true [false false false false false]
}
