// Package long reckons with numbers from 0 on that are too long for an int. No number is changed: what is reckoned is a new one.
package long

import (
	"strconv"
	"strings"
)

// Numbers lie in groups of decimal digits, so that they are told at once; a group times a small number fits an int.
const (
	width = 9
	full  = 1000000000 // what a group stays below
)

// Number is 0, if it is the zero value.
type Number struct {
	groups []int // the lowest first; the highest one is not 0
}

// Of is n, which is not below 0.
func Of(n int) Number {
	var x Number
	for ; n > 0; n /= full {
		x.groups = append(x.groups, n%full)
	}
	return x
}

// IsZero tells whether x is 0.
func (x Number) IsZero() bool { return len(x.groups) == 0 }

// TimesPlus is x times n, which is from 1 to 999999999, and more, which is from 0 to as much.
func (x Number) TimesPlus(n, more int) Number {
	groups := make([]int, 0, len(x.groups)+1)
	for _, g := range x.groups {
		more += g * n
		groups = append(groups, more%full)
		more /= full
	}
	if more > 0 {
		groups = append(groups, more)
	}
	return Number{groups}
}

// LessOne is x, which is not 0, less 1.
func (x Number) LessOne() Number {
	groups := make([]int, len(x.groups))
	taken := 1
	for i, g := range x.groups {
		groups[i] = (g - taken + full) % full
		if g > 0 {
			taken = 0
		}
	}
	return trimmed(groups)
}

// Split divides x by n, which is from 1 to 999999999; rest is what is left.
func (x Number) Split(n int) (parts Number, rest int) {
	groups := make([]int, len(x.groups))
	for i := len(groups) - 1; i >= 0; i-- {
		rest = rest*full + x.groups[i]
		groups[i] = rest / n
		rest %= n
	}
	return trimmed(groups), rest
}

// trimmed leaves out the highest group, where it has become 0.
func trimmed(groups []int) Number {
	if last := len(groups) - 1; last >= 0 && groups[last] == 0 {
		groups = groups[:last]
	}
	return Number{groups}
}

// Small is x, if it is below 1000000000.
func (x Number) Small() (n int, is bool) {
	if x.IsZero() {
		return 0, true
	}
	if len(x.groups) > 1 {
		return 0, false
	}
	return x.groups[0], true
}

// Digits is how many digits the Text of x has.
func (x Number) Digits() int {
	if x.IsZero() {
		return 1
	}
	last := len(x.groups) - 1
	return last*width + len(strconv.Itoa(x.groups[last]))
}

// Text is x in decimal.
func (x Number) Text() string {
	if x.IsZero() {
		return "0"
	}
	var b strings.Builder
	for i := len(x.groups) - 1; i >= 0; i-- {
		digits := strconv.Itoa(x.groups[i])
		if b.Len() > 0 {
			b.WriteString(strings.Repeat("0", width-len(digits)))
		}
		b.WriteString(digits)
	}
	return b.String()
}
