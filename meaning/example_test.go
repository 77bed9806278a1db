package meaning_test

import (
	"fmt"

	"sequent/api"
	"sequent/first"
	"sequent/meaning"
)

// In one thing all are the same.
func ExampleValue() {
	e, _ := first.Parse("!x !y x = y")
	fmt.Println(meaning.Value(api.Structure{N: 1}, e, nil, nil))
	fmt.Println(meaning.Value(api.Structure{N: 2}, e, nil, nil))
	// Output:
	// true {0 0}
	// false {0 0}
}

func Example() {
	next := api.Fun{Name: "F", Arity: 1, Table: []int{1, 2, 0}}
	sees := api.Pred{Name: "R", Arity: 2, Bits: []bool{false, false, true, true, false, false, false, true, false}}
	s := api.Structure{N: 3, Funs: []api.Fun{next}, Preds: []api.Pred{sees}}
	fmt.Println(meaning.Check(s))
	e, _ := first.Parse("R(x, F(x)) & !y (R(x, y) -> y = F(x))")
	fmt.Println(meaning.Value(s, e, []string{"x"}, []int{2}))
	e, _ = first.Parse("~(!x P(x) & ?y !x R(x, y))")
	prenex, _ := meaning.Prenex(e)
	fmt.Println(first.Print(prenex))
	e, _ = first.Parse("!x ?y R(x, y)")
	skolem, _ := meaning.Skolem(e)
	fmt.Println(first.Print(skolem))
	// Output:
	// {0 0}
	// true {0 0}
	// ?x !y ?a ~(P(x) & R(a, y)) {0 0}
	// !x R(x, Sa(x)) {0 0}
}
