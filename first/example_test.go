package first_test

import (
	"fmt"

	"sequent/api"
	"sequent/first"
)

func Example() {
	e, _ := first.Parse("(!x P(x)) & ?y (R(x,y))")
	text, _ := first.Print(e)
	free, _ := first.Free(e)
	put, _ := first.Put(e, "x", api.Word{Name: "F", Args: []api.Word{{Name: "z"}}})
	changed, _ := first.Print(put)
	_, fault := first.Parse("!x P(x) & P")
	fmt.Println(text)
	fmt.Println(free)
	fmt.Println(changed)
	fmt.Println(fault.Code == api.ErrForm, fault.At)
	// Output:
	// !x P(x) & ?y R(x, y)
	// [x]
	// !x P(x) & ?y R(F(z), y)
	// true 4
}

func ExampleAlike() {
	e, _ := first.Parse("?y R(x, y)")
	put, _ := first.Put(e, "x", api.Word{Name: "y"})
	like, _ := first.Parse("?a R(y, a)")
	caught, _ := first.Parse("?y R(y, y)")
	is, _ := first.Alike(put, like)
	other, _ := first.Alike(put, caught)
	fmt.Println(is, other)
	// Output: true false
}
