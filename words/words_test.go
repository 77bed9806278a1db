package words_test

import (
	"slices"
	"testing"

	"sequent/api"
	"sequent/words"
)

func word(name string, args ...api.Word) api.Word { return api.Word{Name: name, Args: args} }

// nested is w below so many F.
func nested(n int, w api.Word) api.Word {
	for range n {
		w = word("F", w)
	}
	return w
}

// endless holds itself.
func endless() api.Word {
	args := make([]api.Word, 1)
	args[0] = api.Word{Name: "F", Args: args}
	return args[0]
}

func TestFault(t *testing.T) {
	x, c := word("x"), word("C")
	for what, a := range map[string]struct {
		w    api.Word
		want int
	}{
		"a variable":                  {word("y"), api.OK},
		"the variable x":              {x, api.OK},
		"a big name":                  {c, api.OK},
		"x within":                    {word("G", x, word("F", x)), api.OK},
		"no name":                     {api.Word{}, api.ErrName},
		"no name within":              {word("G", x, word("x1")), api.ErrName},
		"a variable with Args":        {word("y", c), api.ErrSize},
		"x with Args":                 {word("x", c), api.ErrSize},
		"a variable with Args within": {word("F", word("y", c)), api.ErrSize},
		"two numbers of Args":         {word("F", word("F", c, c)), api.ErrForm},
		"just enough nodes":           {nested(api.MaxNodes-1, x), api.OK},
		"one node too many":           {nested(api.MaxNodes, x), api.ErrMany},
		"just enough Args":            {word("F", slices.Repeat([]api.Word{x}, api.MaxNodes-1)...), api.OK},
		"one Arg too many":            {word("F", slices.Repeat([]api.Word{x}, api.MaxNodes)...), api.ErrMany},
		"endless":                     {endless(), api.ErrMany},
		"a name ahead of too many":    {word("G", word(""), nested(api.MaxNodes, x)), api.ErrName},
	} {
		if got := words.Fault(a.w); got != a.want {
			t.Errorf("%s: %d, want %d", what, got, a.want)
		}
	}
}
