package between

import (
	"slices"

	"sequent/api"
	"sequent/formula"
	"sequent/truth"
)

// namesTogether answers all names in the formulas, each once, rising, if these are plain and have few enough names to go through all rows.
func namesTogether(l ...api.Formula) ([]string, api.Fault) {
	var names []string
	for _, f := range l {
		// Without a list that may be wrong, layer 2 tells just why f is not plain.
		if _, e := truth.Value(f, nil); e.Code != api.OK {
			return nil, e
		}
		names = append(names, namesOf(f)...)
	}
	slices.Sort(names)
	names = slices.Compact(names)
	if len(names) > api.MaxNames {
		return nil, api.Fault{Code: api.ErrMany}
	}
	return names, api.Fault{}
}

// namesOf counts on f to be plain.
func namesOf(f api.Formula) []string {
	names, _ := formula.Names(f)
	return names
}

// isTrue tells whether f, which is plain, is true where just the names that are held are.
func isTrue(f api.Formula, held []string) bool {
	is, _ := truth.Value(f, held)
	return is
}

// isSome tells whether some of the names can be held, beside those that are, so that it is so.
func isSome(names, held []string, isSo func(held []string) bool) bool {
	if len(names) == 0 {
		return isSo(held)
	}
	return isSome(names[1:], held, isSo) || isSome(names[1:], with(held, names[0]), isSo)
}

// with is a new list, so that what is held in one row does not come into another.
func with(held []string, name string) []string {
	return slices.Concat(held, []string{name})
}
