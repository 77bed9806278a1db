package between

import (
	"testing"

	"sequent/api"
)

func nodesIn(f api.Formula) int {
	n := 1
	for _, k := range f.Kids {
		n += nodesIn(k)
	}
	return n
}

// TestWrittenNodes goes through all functions of up to four names: each name more takes twice as many nodes and 5 at most, so that those of MaxNames names stay below MaxNodes.
func TestWrittenNodes(t *testing.T) {
	names := []string{"p", "q", "r", "s"}
	for n, want := range []int{1, 2, 8, 20, 45} {
		most := 0
		for number := range 1 << (1 << n) {
			isSo := func(held []string) bool { return number>>rowOf(names, held)&1 == 1 }
			f := written(names[:n], nil, isSo)
			most = max(most, nodesIn(f))
			if isSome(names[:n], nil, func(held []string) bool { return isTrue(f, held) != isSo(held) }) {
				t.Fatalf("%d names, the function %b: %v", n, number, f)
			}
		}
		if most != want {
			t.Errorf("%d names: %d nodes, want %d", n, most, want)
		}
		for range api.MaxNames - n {
			most = 2*most + 5
		}
		if n > 2 && most > api.MaxNodes {
			t.Errorf("from %d names on, %d nodes may be needed", n, most)
		}
	}
}

func rowOf(names, held []string) int {
	row := 0
	for _, h := range held {
		for i, n := range names {
			if n == h {
				row |= 1 << i
			}
		}
	}
	return row
}
