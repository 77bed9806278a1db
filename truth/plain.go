package truth

import (
	"slices"

	"sequent/api"
	"sequent/formula"
)

// plainFault tells why f is not plain. A fault anywhere in f goes ahead of FBox and FDia.
func plainFault(f api.Formula) api.Fault {
	if e := formula.Check(f); e.Code != api.OK {
		return e
	}
	if at, found := firstModal(f, 0); found {
		return api.Fault{Code: api.ErrKind, At: at}
	}
	return api.Fault{}
}

// firstModal is the number of the first node that is FBox or FDia, where f's own number is at; without one it is the number that comes behind f.
func firstModal(f api.Formula, at int) (number int, found bool) {
	if f.Kind == api.FBox || f.Kind == api.FDia {
		return at, true
	}
	number = at + 1
	for _, k := range f.Kids {
		if number, found = firstModal(k, number); found {
			return number, true
		}
	}
	return number, false
}

// isNoName asks layer 1, so that what a name is stands in one place.
func isNoName(s string) bool {
	return formula.Check(api.Formula{Kind: api.FVar, Name: s}).Code != api.OK
}

// firstUnfit is the number of the first that is no name or is there ahead, or -1.
func firstUnfit(names []string) int {
	for i, name := range names {
		if isNoName(name) || slices.Contains(names[:i], name) {
			return i
		}
	}
	return -1
}

// hasOnly: are all names in f, which is plain, among these?
func hasOnly(f api.Formula, names []string) bool {
	own, _ := formula.Names(f)
	isStrange := func(name string) bool { return !slices.Contains(names, name) }
	return !slices.ContainsFunc(own, isStrange)
}
