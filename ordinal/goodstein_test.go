package ordinal_test

import (
	"math/big"
	"slices"
	"strings"
	"testing"

	"sequent/api"
	"sequent/ordinal"
)

func goodstein(t *testing.T, n, steps int) ([]string, []api.Ordinal) {
	t.Helper()
	l, o, f := ordinal.Goodstein(n, steps)
	sameFault(t, "Goodstein", f, api.Fault{})
	if len(l) != len(o) {
		t.Errorf("Goodstein(%d, %d): %d numbers and %d ordinals", n, steps, len(l), len(o))
	}
	return l, o
}

func TestGoodstein(t *testing.T) {
	for _, c := range []struct {
		n, steps int
		numbers  string
		ordinals string
	}{
		{0, 0, "0", "0"},
		{0, 100, "0", "0"},
		{1, 0, "1", "1"},
		{1, 1, "1 0", "1 0"},
		{1, 100, "1 0", "1 0"},
		{2, 0, "2", "w"},
		{2, 2, "2 2 1", "w 2 1"},
		{2, 3, "2 2 1 0", "w 2 1 0"},
		{2, 100, "2 2 1 0", "w 2 1 0"},
		{3, 0, "3", "w+1"},
		{3, 1, "3 3", "w+1 w"},
		{3, 4, "3 3 3 2 1", "w+1 w 3 2 1"},
		{3, 5, "3 3 3 2 1 0", "w+1 w 3 2 1 0"},
		{3, 100, "3 3 3 2 1 0", "w+1 w 3 2 1 0"},
		{4, 0, "4", "w^(w)"},
		{4, 8, "4 26 41 60 83 109 139 173 211", "w^(w) w^(2)*2+w*2+2 w^(2)*2+w*2+1 w^(2)*2+w*2 w^(2)*2+w+5 w^(2)*2+w+4 w^(2)*2+w+3 w^(2)*2+w+2 w^(2)*2+w+1"},
		{5, 4, "5 27 255 467 775", "w^(w)+1 w^(w) w^(3)*3+w^(2)*3+w*3+3 w^(3)*3+w^(2)*3+w*3+2 w^(3)*3+w^(2)*3+w*3+1"},
		{6, 3, "6 29 257 3125", "w^(w)+w w^(w)+2 w^(w)+1 w^(w)"},
		{7, 2, "7 30 259", "w^(w)+w+1 w^(w)+w w^(w)+3"},
		{8, 1, "8 80", "w^(w+1) w^(w)*2+w^(2)*2+w*2+2"},
		{16, 1, "16 7625597484986", "w^(w^(w)) w^(w^(2)*2+w*2+2)*2+w^(w^(2)*2+w*2+1)*2+w^(w^(2)*2+w*2)*2+w^(w^(2)*2+w+2)*2+w^(w^(2)*2+w+1)*2+w^(w^(2)*2+w)*2+w^(w^(2)*2+2)*2+w^(w^(2)*2+1)*2+w^(w^(2)*2)*2+w^(w^(2)+w*2+2)*2+w^(w^(2)+w*2+1)*2+w^(w^(2)+w*2)*2+w^(w^(2)+w+2)*2+w^(w^(2)+w+1)*2+w^(w^(2)+w)*2+w^(w^(2)+2)*2+w^(w^(2)+1)*2+w^(w^(2))*2+w^(w*2+2)*2+w^(w*2+1)*2+w^(w*2)*2+w^(w+2)*2+w^(w+1)*2+w^(w)*2+w^(2)*2+w*2+2"},
		{19, 1, "19 7625597484990", "w^(w^(w))+w+1 w^(w^(w))+w"},
		{65535, 0, "65535", ""},
		{65536, 100, "65536", "w^(w^(w^(w)))"},
		{65537, 100, "65537", "w^(w^(w^(w)))+1"},
		{1000000000, 0, "1000000000", ""},
		{1000000000, 100, "1000000000", "w^(w^(w^(w))+w^(w+1)+w^(w)+1)+w^(w^(w^(w))+w^(w+1)+w^(w))+w^(w^(w^(w))+w^(w+1)+w+1)+w^(w^(w^(w))+w^(w+1)+1)+w^(w^(w^(w))+w^(w+1))+w^(w^(w^(w))+w^(w)+w+1)+w^(w^(w^(w))+w^(w))+w^(w^(w^(w))+w+1)+w^(w^(w^(w))+1)+w^(w^(w+1)+w^(w)+w+1)+w^(w^(w+1)+w^(w)+w)+w^(w^(w+1)+w+1)+w^(w^(w+1)+1)"},
	} {
		l, o := goodstein(t, c.n, c.steps)
		var texts []string
		for _, a := range o {
			texts = append(texts, text(t, a))
		}
		if strings.Join(l, " ") != c.numbers || c.ordinals != "" && strings.Join(texts, " ") != c.ordinals {
			t.Errorf("Goodstein(%d, %d): %v, %v", c.n, c.steps, l, texts)
		}
	}
}

// raised is x, written with powers of base, with base + 1 for base; nil, if this has far more than 1000 digits.
func raised(x *big.Int, base int64) *big.Int {
	out, left, digit := new(big.Int), new(big.Int).Set(x), new(big.Int)
	for i := int64(0); left.Sign() > 0; i++ {
		left.DivMod(left, big.NewInt(base), digit)
		if digit.Sign() == 0 {
			continue
		}
		e := raised(big.NewInt(i), base)
		if e == nil || e.Cmp(big.NewInt(4000)) > 0 {
			return nil
		}
		power := new(big.Int).Exp(big.NewInt(base+1), e, nil)
		out.Add(out, power.Mul(power, digit))
	}
	return out
}

func numbersAgain(n, steps int) []string {
	x := big.NewInt(int64(n))
	l := []string{x.String()}
	for k := range steps {
		y := raised(x, int64(k+2))
		if x.Sign() == 0 || y == nil || len(y.String()) > 1000 {
			break
		}
		x = y.Sub(y, big.NewInt(1))
		l = append(l, x.String())
	}
	return l
}

// value is a with base for omega.
func value(a api.Ordinal, base int64) *big.Int {
	out := new(big.Int)
	for _, p := range a.Parts {
		power := new(big.Int).Exp(big.NewInt(base), value(p.Exp, base), nil)
		out.Add(out, power.Mul(power, big.NewInt(int64(p.Many))))
	}
	return out
}

// isWritten: are all parts of a in order, and does each come at least once, and less than base times?
func isWritten(a api.Ordinal, base int) bool {
	for i, p := range a.Parts {
		if p.Many < 1 || p.Many >= base || !isWritten(p.Exp, base) || i > 0 && !isLess(p.Exp, a.Parts[i-1].Exp) {
			return false
		}
	}
	return true
}

// heldAgain holds numbers against a second reckoning, and ordinals against what makes them the only right ones.
func heldAgain(t *testing.T, n, steps int) []string {
	t.Helper()
	l, o := goodstein(t, n, steps)
	if want := numbersAgain(n, steps); !slices.Equal(l, want) {
		t.Errorf("Goodstein(%d, %d): %v, want %v", n, steps, l, want)
	}
	for k, a := range o {
		if !isWritten(a, k+2) || value(a, int64(k+2)).String() != l[k] {
			t.Errorf("Goodstein(%d, %d): beside %s is %v", n, steps, l[k], a)
		}
		if k > 0 && !isLess(a, o[k-1]) {
			t.Errorf("Goodstein(%d, %d): the ordinal beside %s is not less than the one ahead", n, steps, l[k])
		}
	}
	return l
}

func TestGoodsteinAgain(t *testing.T) {
	for n := range 600 {
		for _, steps := range []int{n % 7, 100} {
			heldAgain(t, n, steps)
		}
	}
	for n := 600; n < 70000; n += 397 {
		heldAgain(t, n, 100)
	}
	for _, n := range []int{65534, 65535, 65536, 1 << 20, 1<<29 - 1, 1 << 29, 999999999, 1000000000} {
		heldAgain(t, n, 100)
	}
}

// TestGoodsteinAllSteps: more steps only go on.
func TestGoodsteinAllSteps(t *testing.T) {
	for _, n := range []int{0, 1, 2, 3, 4, 7, 12, 16, 17, 300} {
		whole, _ := goodstein(t, n, 100)
		for steps := range 101 {
			l, _ := goodstein(t, n, steps)
			if !slices.Equal(l, whole[:min(steps+1, len(whole))]) {
				t.Errorf("Goodstein(%d, %d): %v", n, steps, l)
			}
		}
	}
}

// TestGoodsteinEndsAheadOfLongNumbers: those of which the digits come closest to 1000.
func TestGoodsteinEndsAheadOfLongNumbers(t *testing.T) {
	for _, c := range []struct {
		n, numbers, digits, next int
	}{
		{15, 101, 0, 0},
		{16, 18, 975, 1096},
		{17, 5, 606, 1015},
		{19, 3, 155, 2185},
		{65535, 3, 774, 0},
		{65536, 1, 5, 0},
	} {
		l := heldAgain(t, c.n, 100)
		last := l[len(l)-1]
		if len(l) != c.numbers || c.digits > 0 && len(last) != c.digits {
			t.Errorf("Goodstein(%d, 100): %d numbers, the last one has %d digits", c.n, len(l), len(last))
		}
		if c.next > 0 {
			x, _ := new(big.Int).SetString(last, 10)
			if next := raised(x, int64(len(l)+1)); len(next.String()) != c.next {
				t.Errorf("the number behind has %d digits", len(next.String()))
			}
		}
	}
}
