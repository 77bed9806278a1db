package set_test

import (
	"slices"
	"testing"

	"sequent/set"
)

func TestOf(t *testing.T) {
	for _, c := range []struct {
		s    set.Set
		want []int
	}{
		{set.Of(), nil},
		{set.Of(0), []int{0}},
		{set.Of(63, 5, 5, 0), []int{0, 5, 63}},
		{set.Of(1, 2).With(), []int{1, 2}},
		{set.Of(1, 2).With(2, 40, 3), []int{1, 2, 3, 40}},
		{set.Of(1, 2, 3).Without(set.Of(3, 4, 1)), []int{2}},
		{set.Of(1, 2).Without(0), []int{1, 2}},
		{set.Below(0), nil},
		{set.Below(1), []int{0}},
		{set.Below(4), []int{0, 1, 2, 3}},
	} {
		if l := c.s.Members(64); !slices.Equal(l, c.want) || c.s.Len() != len(c.want) {
			t.Errorf("%b has %d, %v, want %v", c.s, c.s.Len(), l, c.want)
		}
		if lowest := append(slices.Clone(c.want), 64)[0]; c.s.Lowest() != lowest {
			t.Errorf("%b: lowest %d, want %d", c.s, c.s.Lowest(), lowest)
		}
		for n := range 64 {
			if c.s.Has(n) != slices.Contains(c.want, n) {
				t.Errorf("%b: has %d: %v", c.s, n, c.s.Has(n))
			}
		}
	}
	if l := set.Below(64).Members(64); len(l) != 64 {
		t.Errorf("below 64: %v", l)
	}
}

func TestOnlyBelow(t *testing.T) {
	s := set.Of(0, 3, 4, 63)
	for n, want := range map[int][]int{0: nil, 1: {0}, 3: {0}, 4: {0, 3}, 5: {0, 3, 4}, 63: {0, 3, 4}} {
		if l := s.Members(n); !slices.Equal(l, want) {
			t.Errorf("below %d: %v, want %v", n, l, want)
		}
		l := s.Bools(n)
		if len(l) != n {
			t.Errorf("below %d: %d bools", n, len(l))
		}
		for i, is := range l {
			if is != slices.Contains(want, i) {
				t.Errorf("below %d: %v at %d", n, is, i)
			}
		}
	}
}

func TestIsWithin(t *testing.T) {
	for a := range set.Set(16) {
		for b := range set.Set(16) {
			want := !slices.ContainsFunc(a.Members(4), func(n int) bool { return !b.Has(n) })
			if a.IsWithin(b) != want {
				t.Errorf("%b within %b: %v", a, b, !want)
			}
		}
	}
}

// TestSetsAreValues: a set that others are made of stays as it is.
func TestSetsAreValues(t *testing.T) {
	s := set.Of(1, 2)
	s.With(3)
	s.Without(set.Of(1))
	if s != set.Of(2, 1) {
		t.Errorf("%b", s)
	}
}
