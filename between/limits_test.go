package between_test

import (
	"math/rand"
	"testing"

	"sequent/api"
)

// TestGreatestAnswers has what needs most nodes: that an odd number of names is true.
func TestGreatestAnswers(t *testing.T) {
	names := words("a b c d e f")
	for _, f := range []api.Formula{odd(names), nots(1, odd(names)), padded(odd(names))} {
		interpolated(t, f, f)
		projected(t, f, names)
		for _, s := range names {
			if _, found := defined(t, f, s); !found {
				t.Errorf("%s is told by the others, and is not found", s)
			}
			projected(t, f, append(words("x y z"), s))
		}
		projected(t, f, names[:5])
	}
	five := odd(names[:5])
	law := same(name("f"), five)
	for _, f := range []api.Formula{law, padded(law), nots(1, law)} {
		if _, found := defined(t, f, "f"); !found {
			t.Errorf("f is told, and is not found")
		}
	}
	interpolated(t, node(api.FAnd, law, name("f")), node(api.FOr, law, name("f")))
	interpolated(t, node(api.FAnd, five, name("f")), five)
	interpolated(t, five, node(api.FOr, five, name("f")))
	projected(t, node(api.FAnd, five, name("f")), names[:5])
}

// padded is f below as many FNot as it may have, or one fewer, so that it says the same.
func padded(f api.Formula) api.Formula {
	return nots((api.MaxNodes-nodesIn(f))/2*2, f)
}

// TestGreatestInputs has formulas of just MaxNodes nodes, with MaxNames names together.
func TestGreatestInputs(t *testing.T) {
	chance := rand.New(rand.NewSource(17))
	pool := words("a b c d e f")
	for range 400 {
		f, g := chanced(chance, api.MaxNodes, pool), chanced(chance, api.MaxNodes, pool)
		if nodesIn(f) != api.MaxNodes {
			t.Fatalf("%d nodes", nodesIn(f))
		}
		interpolated(t, f, g)
		interpolated(t, f, f)
		projected(t, f, pool)
		projected(t, f, pool[chance.Intn(6):])
		for _, s := range pool {
			defined(t, f, s)
		}
	}
	deep := nots(api.MaxNodes-1, name("p"))
	interpolated(t, deep, deep)
	projected(t, deep, words("p"))
	defined(t, deep, "p")
}
