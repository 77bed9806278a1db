package long_test

import (
	"math/big"
	"math/rand"
	"strings"
	"testing"

	"sequent/long"
)

// edges are small numbers, and those by which groups of digits become full.
func edges() []int {
	return []int{0, 1, 2, 9, 10, 99999999, 100000000, 999999999, 1000000000, 1000000001, 1999999999, 2000000000, 999999999999999999, 1000000000000000000, 1000000000000000001, 1<<63 - 1}
}

// numbers are some with their values reckoned otherwise.
func numbers() (l []long.Number, want []*big.Int) {
	chance := rand.New(rand.NewSource(1))
	for _, n := range edges() {
		l, want = append(l, long.Of(n)), append(want, big.NewInt(int64(n)))
	}
	for range 40 {
		x, y := long.Of(1), big.NewInt(1)
		for range chance.Intn(60) {
			n, more := 1+chance.Intn(999999999), chance.Intn(3)*chance.Intn(500000000)
			x = x.TimesPlus(n, more)
			y = new(big.Int).Add(new(big.Int).Mul(y, big.NewInt(int64(n))), big.NewInt(int64(more)))
			l, want = append(l, x), append(want, y)
		}
	}
	// Many noughts, and many nines.
	x, y := long.Of(1), big.NewInt(1)
	for range 40 {
		x, y = x.TimesPlus(10, 0), new(big.Int).Mul(y, big.NewInt(10))
		l, want = append(l, x, x.LessOne()), append(want, y, new(big.Int).Sub(y, big.NewInt(1)))
	}
	return l, want
}

func told(t *testing.T, what string, x long.Number, want *big.Int) {
	t.Helper()
	if x.Text() != want.String() {
		t.Errorf("%s: %s, want %s", what, x.Text(), want)
	}
	if x.Digits() != len(want.String()) {
		t.Errorf("%s: %s has %d digits", what, want, x.Digits())
	}
	if x.IsZero() != (want.Sign() == 0) {
		t.Errorf("%s: IsZero of %s: %v", what, want, x.IsZero())
	}
	n, is := x.Small()
	if is != (want.Cmp(big.NewInt(1000000000)) < 0) || is && int64(n) != want.Int64() || !is && n != 0 {
		t.Errorf("%s: Small of %s: %d, %v", what, want, n, is)
	}
}

func TestNumbers(t *testing.T) {
	l, want := numbers()
	for i, x := range l {
		told(t, "a number", x, want[i])
	}
	told(t, "the zero value", long.Number{}, new(big.Int))
}

func TestTimesPlus(t *testing.T) {
	l, values := numbers()
	for i, x := range l {
		for _, n := range []int{1, 2, 10, 102, 999999999} {
			for _, more := range []int{0, 1, 101, 999999999} {
				want := new(big.Int).Mul(values[i], big.NewInt(int64(n)))
				told(t, "TimesPlus", x.TimesPlus(n, more), want.Add(want, big.NewInt(int64(more))))
			}
		}
		told(t, "behind TimesPlus", x, values[i])
	}
}

func TestLessOne(t *testing.T) {
	l, values := numbers()
	for i, x := range l {
		if values[i].Sign() > 0 {
			told(t, "LessOne", x.LessOne(), new(big.Int).Sub(values[i], big.NewInt(1)))
			told(t, "behind LessOne", x, values[i])
		}
	}
}

func TestSplit(t *testing.T) {
	l, values := numbers()
	for i, x := range l {
		for _, n := range []int{1, 2, 3, 10, 102, 1000000, 999999999} {
			parts, rest := x.Split(n)
			want, left := new(big.Int).DivMod(values[i], big.NewInt(int64(n)), new(big.Int))
			told(t, "Split", parts, want)
			if int64(rest) != left.Int64() {
				t.Errorf("%s by %d: %d is left, want %s", values[i], n, rest, left)
			}
		}
		told(t, "behind Split", x, values[i])
	}
}

func TestLongest(t *testing.T) {
	x := long.Of(0)
	for range 20000 {
		x = x.TimesPlus(10, 9)
	}
	if x.Text() != strings.Repeat("9", 20000) || x.Digits() != 20000 {
		t.Errorf("%d digits", x.Digits())
	}
	if x = x.TimesPlus(1, 1); x.Text() != "1"+strings.Repeat("0", 20000) || x.Digits() != 20001 {
		t.Errorf("%d digits", x.Digits())
	}
}
