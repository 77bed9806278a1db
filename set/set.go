// Package set has sets of small numbers, each in one word, for the layers that go through many of them.
package set

import "math/bits"

// Set has the numbers from 0 to 63 whose binary digits in it are 1.
type Set uint64

// Of is the set of these numbers.
func Of(l ...int) Set {
	return Set(0).With(l...)
}

// Below has all numbers from 0 to n - 1.
func Below(n int) Set {
	return 1<<n - 1
}

// Has tells whether n is in s.
func (s Set) Has(n int) bool { return s>>n&1 == 1 }

// With is s with these numbers, too.
func (s Set) With(l ...int) Set {
	for _, n := range l {
		s |= 1 << n
	}
	return s
}

// Without: what is in others goes.
func (s Set) Without(others Set) Set { return s &^ others }

// IsWithin: is all of s in whole?
func (s Set) IsWithin(whole Set) bool { return s.Without(whole) == 0 }

// Len is how many numbers s has.
func (s Set) Len() int { return bits.OnesCount64(uint64(s)) }

// Lowest is the lowest number of s, or 64, if it has none.
func (s Set) Lowest() int { return bits.TrailingZeros64(uint64(s)) }

// Members are those of s below n, rising.
func (s Set) Members(n int) []int {
	var l []int
	for i := range n {
		if s.Has(i) {
			l = append(l, i)
		}
	}
	return l
}

// Bools tells of each number below n whether it is in s.
func (s Set) Bools(n int) []bool {
	l := make([]bool, n)
	for i := range l {
		l[i] = s.Has(i)
	}
	return l
}
