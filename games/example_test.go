package games_test

import (
	"fmt"

	"sequent/api"
	"sequent/first"
	"sequent/games"
)

// Of one thing and two.
func ExampleWins() {
	one, two := api.Structure{N: 1}, api.Structure{N: 2}
	fmt.Println(games.Wins(one, two, 1))
	fmt.Println(games.Wins(one, two, 2))
	// Output:
	// true {0 0}
	// false {0 0}
}

func ExampleTell() {
	one, two := api.Structure{N: 1}, api.Structure{N: 2}
	e, fault := games.Tell(one, two, 2)
	text, _ := first.Print(e)
	fmt.Println(text, fault)
	_, fault = games.Tell(one, two, 1)
	fmt.Println(fault)
	// Output:
	// !a !b a = b {0 0}
	// {6 0}
}

// Orders in a row.
func Example() {
	fmt.Println(games.Wins(row(7), row(8), 3))
	fmt.Println(games.Wins(row(6), row(7), 3))
	e, _ := games.Tell(row(3), row(2), 2)
	text, _ := first.Print(e)
	fmt.Println(text)
	// Output:
	// true {0 0}
	// false {0 0}
	// ?a (?b R(a, b) & ?b (~a = b & ~R(a, b)))
}
