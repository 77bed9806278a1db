// Package syntax has what the layers of first order have in common: which names there are, walks through expressions and words, and words that are put for variables.
package syntax

import (
	"slices"

	"sequent/api"
	"sequent/formula"
)

const longestName = 8

// IsVariable asks layer 1, so that names are the same in all layers.
func IsVariable(s string) bool {
	return formula.Check(api.Formula{Kind: api.FVar, Name: s}).Code == api.OK
}

// IsBig tells whether s is a big name.
func IsBig(s string) bool {
	if s == "" || len(s) > longestName || !isCapital(s[0]) {
		return false
	}
	for i := range len(s) {
		if !IsLetter(s[i]) {
			return false
		}
	}
	return true
}

// IsName tells whether s may be a word's. What is a big name is found out sooner.
func IsName(s string) bool { return IsBig(s) || IsVariable(s) }

// IsLetter tells whether c may stand in a name.
func IsLetter(c byte) bool { return isCapital(c) || 'a' <= c && c <= 'z' }

func isCapital(c byte) bool { return 'A' <= c && c <= 'Z' }

// Names are new ones that begin alike: none of them is taken.
type Names struct {
	begin string
	taken []string
	next  int
}

// NewNames begin with the letters, perhaps none.
func NewNames(begin string, taken []string) *Names {
	return &Names{begin: begin, taken: taken}
}

// Next is another one each time.
func (n *Names) Next() string {
	for {
		name := n.begin + nth(n.next)
		n.next++
		if !slices.Contains(n.taken, name) {
			return name
		}
	}
}

// nth counts through endings: a to z, then aa, ab, and so on.
func nth(n int) string {
	last := string(rune('a' + n%26))
	if n < 26 {
		return last
	}
	return nth(n/26-1) + last
}
