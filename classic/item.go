package classic

import (
	"sequent/api"
	"sequent/parts"
)

// item is a part at a side of a sequent: twice its number at the Left, one more at the Right.
type item int

func atLeft(part int) item { return item(2 * part) }

func atRight(part int) item { return item(2*part + 1) }

func (i item) part() int { return int(i / 2) }

func (i item) isRight() bool { return i%2 == 1 }

// across is the same part at the other side.
func (i item) across() item { return i ^ 1 }

// itemsOf are those of s, in its order.
func itemsOf(s api.Sequent, table *parts.Table) []item {
	var items []item
	for _, f := range s.Left {
		items = append(items, atLeft(table.Number(f)))
	}
	for _, f := range s.Right {
		items = append(items, atRight(table.Number(f)))
	}
	return items
}

// way is how a rule takes an item apart: what comes in its place, premise by premise. The end is true in just the rows in which all premises are, so that no item is taken apart in vain.
type way struct {
	rule     string
	premises [][]item
}

// waysOf are those of all items, by their numbers; without premises where there is nothing to take apart.
func waysOf(table *parts.Table) []way {
	var ways []way
	for n := range table.Len() {
		p := table.Part(n)
		ways = append(ways, wayAtLeft(p.Kind, p.Kids[0], p.Kids[1]), wayAtRight(p.Kind, p.Kids[0], p.Kids[1]))
	}
	return ways
}

func wayAtLeft(kind, a, b int) way {
	switch kind {
	case api.FNot:
		return way{"not-l", [][]item{{atRight(a)}}}
	case api.FAnd:
		return way{"and-l", [][]item{{atLeft(a), atLeft(b)}}}
	case api.FOr:
		return way{"or-l", [][]item{{atLeft(a)}, {atLeft(b)}}}
	case api.FThen:
		return way{"then-l", [][]item{{atRight(a)}, {atLeft(b)}}}
	}
	return way{}
}

func wayAtRight(kind, a, b int) way {
	switch kind {
	case api.FNot:
		return way{"not-r", [][]item{{atLeft(a)}}}
	case api.FAnd:
		return way{"and-r", [][]item{{atRight(a)}, {atRight(b)}}}
	case api.FOr:
		return way{"or-r", [][]item{{atRight(a), atRight(b)}}}
	case api.FThen:
		return way{"then-r", [][]item{{atLeft(a), atRight(b)}}}
	}
	return way{}
}
