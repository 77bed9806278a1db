package kripke

// set has small numbers: n, if its binary digit with the value 2^n is 1.
type set uint64

func setOf(l ...int) set {
	return set(0).with(l...)
}

func (s set) has(n int) bool { return s>>n&1 == 1 }

func (s set) with(l ...int) set {
	for _, n := range l {
		s |= 1 << n
	}
	return s
}

// without: what is in others goes.
func (s set) without(others set) set { return s &^ others }

// isWithin: is all of s in whole?
func (s set) isWithin(whole set) bool { return s.without(whole) == 0 }

// members are those of s below n, rising.
func (s set) members(n int) []int {
	var l []int
	for i := range n {
		if s.has(i) {
			l = append(l, i)
		}
	}
	return l
}
