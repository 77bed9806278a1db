package lambda_test

import (
	"fmt"

	"sequent/api"
	"sequent/formula"
	"sequent/lambda"
)

func Example() {
	p, _ := formula.Parse("p")
	name := api.Term{Kind: api.TVar}
	same := api.Term{Kind: api.TLam, Of: p, Kids: []api.Term{name}}
	f, _ := lambda.Infer(nil, same)
	text, _ := formula.Print(f)
	fmt.Println(text)
	unit := api.Term{Kind: api.TUnit}
	both := api.Term{Kind: api.TPair, Kids: []api.Term{unit, unit}}
	t, _ := lambda.Normal(nil, api.Term{Kind: api.TFirst, Kids: []api.Term{both}})
	fmt.Println(t.Kind == api.TUnit)
	f, _ = formula.Parse("p -> p")
	t, _ = lambda.Inhabit(f)
	fmt.Println(t.Kind == api.TLam, t.Kids[0].Kind == api.TVar)
	// Output:
	// p -> p
	// true
	// true true
}
