package first

import (
	"sequent/api"
	"sequent/formula"
)

const longestName = 8

// isVariable asks layer 1, so that names are the same in all layers.
func isVariable(s string) bool {
	return formula.Check(api.Formula{Kind: api.FVar, Name: s}).Code == api.OK
}

func isBig(s string) bool {
	if s == "" || len(s) > longestName || !isCapital(s[0]) {
		return false
	}
	for i := range len(s) {
		if !isLetter(s[i]) {
			return false
		}
	}
	return true
}

func isAnyName(s string) bool { return isVariable(s) || isBig(s) }

func isCapital(c byte) bool { return 'A' <= c && c <= 'Z' }

func isLetter(c byte) bool { return isCapital(c) || 'a' <= c && c <= 'z' }

// nthName counts through variables: a to z, then aa, ab, and so on.
func nthName(n int) string {
	last := string(rune('a' + n%26))
	if n < 26 {
		return last
	}
	return nthName(n/26-1) + last
}
