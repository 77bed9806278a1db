package truth

import "sequent/api"

// isTrue takes f to be plain, and asks holds of each name whether it is true.
func isTrue(f api.Formula, holds func(name string) bool) bool {
	switch f.Kind {
	case api.FVar:
		return holds(f.Name)
	case api.FTrue:
		return true
	case api.FNot:
		return !isTrue(f.Kids[0], holds)
	case api.FAnd:
		return isTrue(f.Kids[0], holds) && isTrue(f.Kids[1], holds)
	case api.FOr:
		return isTrue(f.Kids[0], holds) || isTrue(f.Kids[1], holds)
	case api.FThen:
		return !isTrue(f.Kids[0], holds) || isTrue(f.Kids[1], holds)
	}
	return false
}

// column tells whether f, which has no other names, is true, row by row of names.
func column(f api.Formula, names []string) []bool {
	places := placesOf(names)
	bits := make([]bool, 1<<len(names))
	for row := range bits {
		bits[row] = isTrue(f, func(name string) bool { return digit(row, places[name]) })
	}
	return bits
}

func placesOf(names []string) map[string]int {
	places := map[string]int{}
	for i, name := range names {
		places[name] = i
	}
	return places
}

// trueIn tells which of the names are true in the row.
func trueIn(row int, names []string) []string {
	var l []string
	for i, name := range names {
		if digit(row, i) {
			l = append(l, name)
		}
	}
	return l
}

// digit: is the i-th value true in the row?
func digit(row, i int) bool {
	return row>>i&1 == 1
}
