package unify_test

import (
	"fmt"

	"sequent/api"
	"sequent/unify"
)

func ExampleUnify() {
	x, y := api.Word{Name: "x"}, api.Word{Name: "y"}
	c, d := api.Word{Name: "C"}, api.Word{Name: "D"}
	a := api.Word{Name: "F", Args: []api.Word{x, c}}
	b := api.Word{Name: "F", Args: []api.Word{d, y}}
	fmt.Println(unify.Unify([]api.Word{a}, []api.Word{b}))
	fmt.Println(unify.Unify([]api.Word{x}, []api.Word{{Name: "F", Args: []api.Word{x}}}))
	// Output:
	// [{x {D []}} {y {C []}}] {0 0}
	// [] {6 0}
}

func ExampleMatch() {
	x, y := api.Word{Name: "x"}, api.Word{Name: "y"}
	a := api.Word{Name: "G", Args: []api.Word{x, x}}
	b := api.Word{Name: "G", Args: []api.Word{y, y}}
	fmt.Println(unify.Match([]api.Word{a}, []api.Word{b}))
	// Output:
	// [{x {y []}}] {0 0}
}
