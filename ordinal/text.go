package ordinal

import (
	"strconv"
	"strings"

	"sequent/api"
)

// written is the Text of a.
func written(a api.Ordinal) string {
	if isZero(a) {
		return "0"
	}
	var l []string
	for _, p := range a.Parts {
		l = append(l, writtenPart(p))
	}
	return strings.Join(l, "+")
}

func writtenPart(p api.Part) string {
	if isZero(p.Exp) {
		return strconv.Itoa(p.Many)
	}
	text := "w"
	if !isOne(p.Exp) {
		text += "^(" + written(p.Exp) + ")"
	}
	if p.Many > 1 {
		text += "*" + strconv.Itoa(p.Many)
	}
	return text
}

// isOne holds of w to the power of 0, once.
func isOne(a api.Ordinal) bool {
	return len(a.Parts) == 1 && isZero(a.Parts[0].Exp) && a.Parts[0].Many == 1
}
