package ordinal

import (
	"slices"

	"sequent/api"
	"sequent/long"
)

// sequence goes on from n until there are so many steps, a number is 0, or the next one would be too long.
func sequence(n, steps int) (l []string, o []api.Ordinal) {
	x := long.Of(n)
	for base := 2; ; base++ {
		a := inPowers(x, base)
		l, o = append(l, x.Text()), append(o, a)
		if len(l) > steps || x.IsZero() {
			return l, o
		}
		next, is := inNumbers(a, base+1)
		if !is {
			return l, o
		}
		x = next.LessOne()
	}
}

// inPowers writes x with powers of base, and the exponents likewise, with omega for base.
func inPowers(x long.Number, base int) api.Ordinal {
	var l []api.Part
	for power := 0; !x.IsZero(); power++ {
		var digit int
		x, digit = x.Split(base)
		if digit > 0 {
			l = append(l, api.Part{Exp: inPowers(long.Of(power), base), Many: digit})
		}
	}
	slices.Reverse(l)
	return api.Ordinal{Parts: l}
}

// inNumbers is a with base for omega, if that has not too many digits.
func inNumbers(a api.Ordinal, base int) (x long.Number, is bool) {
	powers, is := exponents(a, base)
	if !is {
		return long.Number{}, false
	}
	for i, p := range a.Parts {
		x = x.TimesPlus(1, p.Many)
		for range powers[i] - powers[i+1] {
			// What is behind makes it no shorter, so that no power is too great to go through.
			if x.Digits() > mostDigits {
				return long.Number{}, false
			}
			x = x.TimesPlus(base, 0)
		}
	}
	return x, x.Digits() <= mostDigits
}

// exponents are those of a's powers with base for omega, and 0 behind them, if ints are enough for them.
func exponents(a api.Ordinal, base int) (l []int, is bool) {
	for _, p := range a.Parts {
		x, isShort := inNumbers(p.Exp, base)
		power, isSmall := x.Small()
		if !isShort || !isSmall {
			return nil, false
		}
		l = append(l, power)
	}
	return append(l, 0), true
}
