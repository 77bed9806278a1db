package ordinal

import (
	"cmp"
	"slices"

	"sequent/api"
)

func isZero(a api.Ordinal) bool { return len(a.Parts) == 0 }

// compare goes by the first parts that differ, as each part is greater than all that may stand behind it.
func compare(a, b api.Ordinal) int {
	return slices.CompareFunc(a.Parts, b.Parts, func(p, q api.Part) int {
		return cmp.Or(compare(p.Exp, q.Exp), cmp.Compare(p.Many, q.Many))
	})
}

// copied are these parts in new memory.
func copied(l []api.Part) []api.Part {
	var out []api.Part
	for _, p := range l {
		out = append(out, part(p.Exp, p.Many))
	}
	return out
}

// part has its Exp in new memory.
func part(exp api.Ordinal, many int) api.Part {
	return api.Part{Exp: api.Ordinal{Parts: copied(exp.Parts)}, Many: many}
}

// plus is a + b. What is less than b's first part goes; what has the same power as this joins it.
func plus(a, b api.Ordinal) api.Ordinal {
	if isZero(b) {
		return api.Ordinal{Parts: copied(a.Parts)}
	}
	first := b.Parts[0].Exp
	stays := a.Parts
	if at := slices.IndexFunc(stays, func(p api.Part) bool { return compare(p.Exp, first) < 0 }); at >= 0 {
		stays = stays[:at]
	}
	l, m := copied(stays), copied(b.Parts)
	if last := len(l) - 1; last >= 0 && compare(l[last].Exp, first) == 0 {
		m[0].Many += l[last].Many
		l = l[:last]
	}
	return api.Ordinal{Parts: append(l, m...)}
}

// times is a b, part of b by part. Of a w^c, with c above 0, a's first power alone tells what it is.
func times(a, b api.Ordinal) api.Ordinal {
	if isZero(a) {
		return api.Ordinal{}
	}
	var l []api.Part
	first := a.Parts[0]
	for _, p := range b.Parts {
		if isZero(p.Exp) {
			l = append(l, part(first.Exp, first.Many*p.Many))
			l = append(l, copied(a.Parts[1:])...)
		} else {
			l = append(l, api.Part{Exp: plus(first.Exp, p.Exp), Many: p.Many})
		}
	}
	return api.Ordinal{Parts: l}
}
