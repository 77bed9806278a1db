package ordinal

import (
	"testing"

	"sequent/api"
	"sequent/long"
)

// TestLongestNumbers: no sequence comes to just as many digits as there may be, so that what tells whether there are more is asked by itself.
func TestLongestNumbers(t *testing.T) {
	nines := long.Of(0)
	for range 1000 {
		nines = nines.TimesPlus(10, 9)
	}
	powerOfThree := func(n int) api.Ordinal {
		return api.Ordinal{Parts: []api.Part{{Exp: inPowers(long.Of(n), 3), Many: 1}}}
	}
	far := powerOfThree(1)
	for range 30 {
		far = api.Ordinal{Parts: []api.Part{{Exp: far, Many: 1}}}
	}
	for _, c := range []struct {
		what string
		a    api.Ordinal
		base int
		is   bool
	}{
		{"1000 digits", inPowers(nines, 10), 10, true},
		{"1001 digits", inPowers(nines.TimesPlus(1, 1), 10), 10, false},
		{"1000 digits ahead of the last power, and behind it", powerOfThree(2095), 3, true},
		{"1001 digits behind the last power", powerOfThree(2096), 3, false},
		{"a tower", far, 3, false},
	} {
		x, is := inNumbers(c.a, c.base)
		if is != c.is || is && x.Digits() != mostDigits {
			t.Errorf("%s: %d digits, %v", c.what, x.Digits(), is)
		}
	}
	last := inPowers(nines, 10)
	last.Parts[999].Many++
	if _, is := inNumbers(last, 10); is {
		t.Error("a number that becomes too long at its end is not too long")
	}
}
