package resolve_test

import (
	"fmt"

	"sequent/api"
	"sequent/resolve"
)

func ExampleReplay() {
	p, notP := api.Literal{Name: "P"}, api.Literal{Name: "P", Not: true}
	l := [][]api.Literal{{p}, {notP}}
	steps := []api.Infer{
		{Kind: 1, A: 0, Clause: l[0]},
		{Kind: 1, A: 1, Clause: l[1]},
		{Kind: 2, A: 0, B: 1, I: 0, J: 0},
	}
	fmt.Println(resolve.Replay(l, steps))
	fmt.Println(resolve.Replay(l, steps[:2]))
	// Output:
	// {0 0}
	// {6 2}
}

func ExampleRefute() {
	x := api.Word{Name: "x"}
	fx := api.Word{Name: "F", Args: []api.Word{x}}
	l := [][]api.Literal{
		{{Name: "P", Words: []api.Word{x}}},
		{{Name: "P", Words: []api.Word{fx}, Not: true}},
	}
	steps, fault := resolve.Refute(l)
	for _, s := range steps {
		fmt.Println(s.Kind, s.A, s.B, s.Clause)
	}
	fmt.Println(fault)
	_, fault = resolve.Refute(l[:1])
	fmt.Println(fault)
	// Output:
	// 1 0 0 [{false P [{a []}]}]
	// 1 1 0 [{true P [{F [{a []}]}]}]
	// 2 1 0 []
	// {0 0}
	// {6 0}
}
