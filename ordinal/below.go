package ordinal

import "sequent/api"

// below is what Below answers of a, which is not 0.
func below(a api.Ordinal, n int) api.Ordinal {
	last := len(a.Parts) - 1
	exp, many := a.Parts[last].Exp, a.Parts[last].Many
	l := copied(a.Parts[:last])
	if many > 1 {
		l = append(l, part(exp, many-1))
	}
	switch {
	case isZero(exp):
	case !isSuccessor(exp):
		l = append(l, api.Part{Exp: below(exp, n), Many: 1})
	case n > 0:
		l = append(l, api.Part{Exp: below(exp, n), Many: n})
	}
	return api.Ordinal{Parts: l}
}

// isSuccessor holds of b + 1, whatever b is.
func isSuccessor(a api.Ordinal) bool {
	last := len(a.Parts) - 1
	return last >= 0 && isZero(a.Parts[last].Exp)
}
