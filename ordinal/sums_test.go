package ordinal_test

import (
	"math/rand"
	"strings"
	"testing"

	"sequent/api"
	"sequent/ordinal"
)

// compared asks Cmp both ways.
func compared(t *testing.T, a, b api.Ordinal, want int) {
	t.Helper()
	c, f := ordinal.Cmp(a, b)
	sameFault(t, "Cmp", f, api.Fault{})
	d, f := ordinal.Cmp(b, a)
	sameFault(t, "Cmp", f, api.Fault{})
	if c != want || d != -want {
		t.Errorf("%s to %s: %d and back %d, want %d", text(t, a), text(t, b), c, d, want)
	}
}

func TestCmp(t *testing.T) {
	rising := []string{
		"0", "1", "2", "999999999", "1000000000", "w", "w+1", "w+1000000000", "w*2", "w*2+1", "w*3", "w*1000000000+1000000000",
		"w^(2)", "w^(2)+1", "w^(2)+w", "w^(2)+w*2", "w^(2)*2", "w^(3)", "w^(1000000000)*1000000000", "w^(w)", "w^(w)+w^(7)*9", "w^(w)*2",
		"w^(w+1)", "w^(w+2)", "w^(w*2)", "w^(w^(2))", "w^(w^(2))+w^(w*5+5)*5", "w^(w^(2)+w)", "w^(w^(w))", "w^(w^(w))*2", "w^(w^(w)+1)", "w^(w^(w+1))", "w^(w^(w^(w)))",
	}
	for i, a := range rising {
		for j, b := range rising[:i+1] {
			compared(t, read(a), read(b), min(i-j, 1))
		}
	}
}

func TestCmpOfAllSmallOnes(t *testing.T) {
	l := longForms(7)
	for _, a := range l {
		for _, b := range l {
			compared(t, shortOf(a), shortOf(b), strings.Compare(a, b))
		}
	}
}

// TestCmpLater: only a late part differs.
func TestCmpLater(t *testing.T) {
	a, b := numbered(100, 1, 5), numbered(100, 1, 5)
	compared(t, a, b, 0)
	b.Parts[99].Many = 6
	compared(t, a, b, -1)
	b.Parts[99].Many = 4
	compared(t, a, b, 1)
	b.Parts[98].Many = 6
	compared(t, a, b, -1)
	b.Parts[50].Exp = number(1<<20 - 1)
	b.Parts = b.Parts[50:]
	compared(t, a, b, -1)
	compared(t, a, api.Ordinal{Parts: a.Parts[:99]}, 1)
	compared(t, deepened(number(8), 49), deepened(number(9), 49), -1)
	compared(t, row(deepened(number(8), 49), number(3)), deepened(number(8), 49), 1)
}

func added(a, b string) string { return said(ordinal.Add(read(a), read(b))) }

func multiplied(a, b string) string { return said(ordinal.Mul(read(a), read(b))) }

type reckoned struct {
	a, b, want string
}

const tooMuch = "fault 10 0"

func TestAdd(t *testing.T) {
	for _, c := range []reckoned{
		{"0", "0", "0"},
		{"0", "w^(w)*3+7", "w^(w)*3+7"},
		{"w^(w)*3+7", "0", "w^(w)*3+7"},
		{"2", "3", "5"},
		{"1", "w", "w"},
		{"w", "1", "w+1"},
		{"w", "w", "w*2"},
		{"w+5", "w", "w*2"},
		{"w+5", "w+2", "w*2+2"},
		{"w^(3)+w^(2)+w+1", "w^(2)*4+7", "w^(3)+w^(2)*5+7"},
		{"w^(3)+w+1", "w^(2)*4+7", "w^(3)+w^(2)*4+7"},
		{"w^(3)+w^(2)", "w+7", "w^(3)+w^(2)+w+7"},
		{"w^(3)*9+w^(2)+w+1", "w^(4)", "w^(4)"},
		{"w^(3)*9+w^(2)", "w^(w)+w^(2)", "w^(w)+w^(2)"},
		{"w^(w+1)+w^(w)*2+w^(5)", "w^(w)*3+w^(5)", "w^(w+1)+w^(w)*5+w^(5)"},
		{"999999999", "1", "1000000000"},
		{"1000000000", "1", tooMuch},
		{"w*500000000+5", "w*500000000+1000000000", "w*1000000000+1000000000"},
		{"w*500000000", "w*500000001", tooMuch},
		{"w^(w)+1000000000", "w^(w)+1000000000", "w^(w)*2+1000000000"},
		{"w*1000000000", "w*1000000000", tooMuch},
	} {
		if got := added(c.a, c.b); got != c.want {
			t.Errorf("%s + %s: %s, want %s", c.a, c.b, got, c.want)
		}
	}
}

func TestMul(t *testing.T) {
	for _, c := range []reckoned{
		{"0", "0", "0"},
		{"0", "w^(w)+1", "0"},
		{"w^(w)+1", "0", "0"},
		{"1", "w^(w)+1", "w^(w)+1"},
		{"w^(w)+1", "1", "w^(w)+1"},
		{"3", "4", "12"},
		{"2", "w", "w"},
		{"w", "2", "w*2"},
		{"w", "w", "w^(2)"},
		{"7", "w^(w)*3+w*2+5", "w^(w)*3+w*2+35"},
		{"w+3", "2", "w*2+3"},
		{"w^(2)*3+w*4+5", "6", "w^(2)*18+w*4+5"},
		{"w+3", "w", "w^(2)"},
		{"w+3", "w+2", "w^(2)+w*2+3"},
		{"w*5+3", "w^(2)*4+w*7", "w^(3)*4+w^(2)*7"},
		{"w*5+3", "w^(2)*4+w*7+6", "w^(3)*4+w^(2)*7+w*30+3"},
		{"w^(w)", "w", "w^(w+1)"},
		{"w", "w^(w)", "w^(w)"},
		{"w^(w)+1", "w^(w)", "w^(w*2)"},
		{"w^(w^(2)+w)", "w^(w)+w^(3)+2", "w^(w^(2)+w*2)+w^(w^(2)+w+3)+w^(w^(2)+w)*2"},
		{"50000", "20000", "1000000000"},
		{"50000", "20001", tooMuch},
		{"1000000000", "1000000000", tooMuch},
		{"1000000000", "w*1000000000", "w*1000000000"},
		{"w*1000000000", "2", tooMuch},
		{"w^(1000000000)", "w", tooMuch},
		{"w^(999999999)", "w", "w^(1000000000)"},
		{"w^(w*1000000000)", "w^(w)", tooMuch},
		{"w^(w*1000000000)", "w^(w^(2))", "w^(w^(2))"},
		{"w^(w^(1000000000))", "w^(w)", "w^(w^(1000000000)+w)"},
	} {
		if got := multiplied(c.a, c.b); got != c.want {
			t.Errorf("%s times %s: %s, want %s", c.a, c.b, got, c.want)
		}
	}
}

// TestSumsOfAllSmallOnes holds Add and Mul against long forms, in which there is no Many.
func TestSumsOfAllSmallOnes(t *testing.T) {
	l := longForms(6)
	for _, a := range l {
		for _, b := range l {
			if got, f := ordinal.Add(shortOf(a), shortOf(b)); f != (api.Fault{}) || !isSame(got, shortOf(addAgain(a, b))) {
				t.Errorf("%s + %s: %s %v", text(t, shortOf(a)), text(t, shortOf(b)), text(t, got), f)
			}
			if got, f := ordinal.Mul(shortOf(a), shortOf(b)); f != (api.Fault{}) || !isSame(got, shortOf(mulAgain(a, b))) {
				t.Errorf("%s times %s: %s %v", text(t, shortOf(a)), text(t, shortOf(b)), text(t, got), f)
			}
		}
	}
}

func plus(t *testing.T, a, b api.Ordinal) api.Ordinal {
	t.Helper()
	c, f := ordinal.Add(a, b)
	sameFault(t, "Add", f, api.Fault{})
	return c
}

func times(t *testing.T, a, b api.Ordinal) api.Ordinal {
	t.Helper()
	c, f := ordinal.Mul(a, b)
	sameFault(t, "Mul", f, api.Fault{})
	return c
}

// TestLaws: both can be grouped in any way, and Mul goes part by part of what stands at the right.
func TestLaws(t *testing.T) {
	l := shortForms(4)
	for _, a := range l {
		for _, b := range l {
			if next := times(t, a, plus(t, b, number(1))); !isSame(next, plus(t, times(t, a, b), a)) {
				t.Errorf("%s times one more than %s: %s", text(t, a), text(t, b), text(t, next))
			}
			for _, c := range l {
				whole := plus(t, a, plus(t, b, c))
				if !isSame(whole, plus(t, plus(t, a, b), c)) {
					t.Errorf("%s + %s + %s: %s", text(t, a), text(t, b), text(t, c), text(t, whole))
				}
				whole = times(t, a, plus(t, b, c))
				if !isSame(whole, plus(t, times(t, a, b), times(t, a, c))) {
					t.Errorf("%s times %s + %s: %s", text(t, a), text(t, b), text(t, c), text(t, whole))
				}
				whole = times(t, a, times(t, b, c))
				if !isSame(whole, times(t, times(t, a, b), c)) {
					t.Errorf("%s times %s times %s: %s", text(t, a), text(t, b), text(t, c), text(t, whole))
				}
			}
		}
	}
}

// TestLimitsOfSums: what is less than a + b, or a b, where b is no successor, is so ahead of b.
func TestLimitsOfSums(t *testing.T) {
	l := shortForms(5)
	for _, b := range l {
		if !isLimit(b) {
			continue
		}
		below, f := ordinal.Below(b, 12)
		sameFault(t, "Below", f, api.Fault{})
		for _, a := range l {
			for _, c := range l {
				if isLess(c, plus(t, a, b)) != isLess(c, plus(t, a, below)) {
					t.Errorf("%s is below %s + %s in one way", text(t, c), text(t, a), text(t, b))
				}
				if isLess(c, times(t, a, b)) != isLess(c, times(t, a, below)) {
					t.Errorf("%s is below %s times %s in one way", text(t, c), text(t, a), text(t, b))
				}
			}
		}
	}
}

// TestLargerSums: by chance.
func TestLargerSums(t *testing.T) {
	chance := rand.New(rand.NewSource(3))
	for range 3000 {
		a, b := someOrdinal(chance, 25), someOrdinal(chance, 25)
		if got := plus(t, a, b); !isSame(got, shortOf(addAgain(longOf(a), longOf(b)))) {
			t.Errorf("%s + %s: %s", text(t, a), text(t, b), text(t, got))
		}
		if got := times(t, a, b); !isSame(got, shortOf(mulAgain(longOf(a), longOf(b)))) {
			t.Errorf("%s times %s: %s", text(t, a), text(t, b), text(t, got))
		}
	}
}

// TestSumsTooLarge: the parts of what comes out are counted, not those that go.
func TestSumsTooLarge(t *testing.T) {
	most := numbered(100, 1, 3)
	for _, c := range []struct {
		what string
		a, b api.Ordinal
		is   bool
	}{
		{"most and most swallowed", most, row(power(number(101), 1), numbered(99, 1, 3)), true},
		{"most and most, joined at the first", most, most, true},
		{"half and half", numbered(100, 51, 3), numbered(50, 1, 3), true},
		{"half and more than half", numbered(100, 51, 3), row(numbered(50, 1, 3), number(1)), false},
		{"most and one", most, number(1), false},
		{"most and one that joins", most, power(number(1), 1), true},
		{"deep and deep", row(tower(50), tower(49)), row(tower(49), tower(2)), true},
		{"deep and wide", tower(50), numbered(75, 1, 1), true},
		{"deep and too wide", tower(50), row(numbered(75, 1, 1), number(1)), false},
	} {
		got, f := ordinal.Add(c.a, c.b)
		if c.is {
			sameFault(t, c.what, f, api.Fault{})
			sameFault(t, c.what, ordinal.Check(got), api.Fault{})
		} else if said(got, f) != tooMuch {
			t.Errorf("%s: %s", c.what, said(got, f))
		}
	}
	deepest := tower(50)
	for _, c := range []struct {
		what string
		a, b api.Ordinal
		is   bool
	}{
		{"a number and most", number(3), most, true},
		{"most and a number", most, number(3), true},
		{"most and a power", most, tower(2), true},
		{"most and most", most, most, true},
		{"omega and most", tower(2), most, true},
		{"most and most with a number", most, row(numbered(99, 1, 3), number(2)), false},
		{"four parts of each power", power(read("w+1"), 1), numbered(50, 1, 1), true},
		{"as many", power(read("w"), 1), numbered(50, 1, 1), true},
		{"one power more", power(read("w"), 1), numbered(51, 1, 1), false},
		{"deep and deep", deepest, deepest, true},
		{"deep and omega", deepest, tower(2), true},
		{"deep and four", deepest, numbered(3, 0, 1), false},
		{"deep and three", deepest, numbered(3, 1, 1), true},
	} {
		got, f := ordinal.Mul(c.a, c.b)
		if c.is {
			sameFault(t, c.what, f, api.Fault{})
			sameFault(t, c.what, ordinal.Check(got), api.Fault{})
		} else if said(got, f) != tooMuch {
			t.Errorf("%s: %s", c.what, said(got, f))
		}
	}
}
