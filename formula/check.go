package formula

import (
	"sequent/api"
	"sequent/stop"
)

const longestName = 8

// checker looks at nodes, each ahead of its Kids.
type checker struct {
	seen int
}

// look ends even where Kids hold themselves, as it counts nodes ahead of going on.
func (c *checker) look(f api.Formula) {
	at := c.seen
	if at == api.MaxNodes {
		stop.At(api.ErrMany, 0)
	}
	c.seen++
	checkNode(f, at)
	for _, k := range f.Kids {
		c.look(k)
	}
}

func checkNode(f api.Formula, at int) {
	kids, known := kidsOf(f.Kind)
	if !known {
		stop.At(api.ErrKind, at)
	}
	if len(f.Kids) != kids {
		stop.At(api.ErrSize, at)
	}
	if f.Kind == api.FVar && !isName(f.Name) || f.Kind != api.FVar && f.Name != "" {
		stop.At(api.ErrName, at)
	}
}

// kidsOf tells how many Kids a formula of the kind has, if there is such a kind.
func kidsOf(kind int) (kids int, known bool) {
	switch kind {
	case api.FVar, api.FTrue, api.FFalse:
		return 0, true
	case api.FNot, api.FBox, api.FDia:
		return 1, true
	case api.FAnd, api.FOr, api.FThen:
		return 2, true
	}
	return 0, false
}

func isName(s string) bool {
	if s == "" || len(s) > longestName {
		return false
	}
	for i := range len(s) {
		if !isLetter(s[i]) {
			return false
		}
	}
	return true
}

func isLetter(c byte) bool { return 'a' <= c && c <= 'z' }
