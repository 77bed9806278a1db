package net_test

import (
	"fmt"

	"sequent/api"
	"sequent/net"
)

func ExampleCorrect() {
	p, not := api.Linear{Kind: api.LAtom, Name: "p"}, api.Linear{Kind: api.LAtom, Name: "p", Not: true}
	for _, kind := range []int{api.LPar, api.LTensor} {
		fmt.Println(net.Correct([]api.Linear{{Kind: kind, Kids: []api.Linear{p, not}}}, [][2]int{{0, 1}}))
	}
	// Output:
	// true {0 0}
	// false {0 0}
}

// The nets are joined by p * p, the last of the first one, and its dual.
func ExampleJoin() {
	p, not := api.Linear{Kind: api.LAtom, Name: "p"}, api.Linear{Kind: api.LAtom, Name: "p", Not: true}
	both := api.Linear{Kind: api.LTensor, Kids: []api.Linear{p, p}}
	dual := api.Linear{Kind: api.LPar, Kids: []api.Linear{not, not}}
	l := []api.Linear{not, not, both}
	links, is, fault := net.Prove(l)
	fmt.Println(len(links), is, fault)
	tree, fault := net.Sequential(l, links)
	fmt.Println(tree.Rule, tree.Kids[0].Rule, tree.Kids[1].Rule, fault)
	fmt.Println(net.Join(l, [][2]int{{0, 3}, {1, 2}}, []api.Linear{dual, both}, [][2]int{{0, 2}, {1, 3}}))
	// Output:
	// 2 true {0 0}
	// tensor ax ax {0 0}
	// [[0 3] [1 2]] {0 0}
}
