package first

import (
	"sequent/api"
	"sequent/syntax"
)

// scopes has the names that are bound in two expressions, quantifier by quantifier, the innermost last.
type scopes struct {
	a, b []string
}

func (s scopes) sameExpr(a, b api.Expr) bool {
	if a.Kind != b.Kind {
		return false
	}
	if syntax.IsQuantifier(a.Kind) {
		inner := scopes{append(s.a, a.Name), append(s.b, b.Name)}
		return inner.sameExpr(a.Kids[0], b.Kids[0])
	}
	if a.Name != b.Name || !s.sameWords(a.Words, b.Words) {
		return false
	}
	for i := range a.Kids {
		if !s.sameExpr(a.Kids[i], b.Kids[i]) {
			return false
		}
	}
	return true
}

func (s scopes) sameWords(a, b []api.Word) bool {
	if len(a) != len(b) {
		return false
	}
	for i := range a {
		if !s.sameName(a[i].Name, b[i].Name) || !s.sameWords(a[i].Args, b[i].Args) {
			return false
		}
	}
	return true
}

// sameName: bound names are the same, if one pair of quantifiers binds them, whatever they are; all others, if they are written alike.
func (s scopes) sameName(a, b string) bool {
	i, j := boundBy(s.a, a), boundBy(s.b, b)
	return i == j && (i >= 0 || a == b)
}

// boundBy is the place of the innermost quantifier that binds the name, or below 0.
func boundBy(scope []string, name string) int {
	i := len(scope) - 1
	for i >= 0 && scope[i] != name {
		i--
	}
	return i
}
