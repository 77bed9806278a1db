package ordinal_test

import (
	"fmt"

	"sequent/api"
	"sequent/ordinal"
)

func tell(a api.Ordinal, f api.Fault) {
	text, _ := ordinal.Text(a)
	fmt.Println(text, f)
}

func ExampleAdd() {
	w, one := read("w"), read("1")
	tell(ordinal.Add(w, one))
	tell(ordinal.Add(one, w))
	// Output:
	// w+1 {0 0}
	// w {0 0}
}

func ExampleText() {
	w := power(number(1), 1)
	fmt.Println(ordinal.Text(row(power(w, 2), w, number(3))))
	// Output:
	// w^(w)*2+w+3 {0 0}
}

func ExampleBelow() {
	tell(ordinal.Below(read("w"), 5))
	tell(ordinal.Below(read("w^(w)"), 3))
	tell(ordinal.Below(read("w+7"), 3))
	tell(ordinal.Below(read("0"), 3))
	// Output:
	// 5 {0 0}
	// w^(3) {0 0}
	// w+6 {0 0}
	// 0 {6 0}
}

func ExampleGoodstein() {
	l, o, fault := ordinal.Goodstein(3, 9)
	fmt.Println(l, fault)
	for _, a := range o {
		tell(a, fault)
	}
	// Output:
	// [3 3 3 2 1 0] {0 0}
	// w+1 {0 0}
	// w {0 0}
	// 3 {0 0}
	// 2 {0 0}
	// 1 {0 0}
	// 0 {0 0}
}

// A head goes, and the node that bore it comes three more times.
func ExampleChop() {
	h := api.Hydra{Kids: []api.Hydra{{Kids: []api.Hydra{{}, {}}}}}
	tell(ordinal.Measure(h))
	h, fault := ordinal.Chop(h, []int{0, 1}, 3)
	fmt.Println(len(h.Kids), fault)
	tell(ordinal.Measure(h))
	// Output:
	// w^(2) {0 0}
	// 4 {0 0}
	// w*4 {0 0}
}
