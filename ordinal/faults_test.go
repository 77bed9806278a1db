package ordinal_test

import (
	"math/rand"
	"slices"
	"strconv"
	"testing"

	"sequent/api"
	"sequent/ordinal"
)

// refused asks all that take ordinals; of those that take two each gets the wrong one at either side.
func refused(t *testing.T, what string, a api.Ordinal, want api.Fault) {
	t.Helper()
	sameFault(t, "Check: "+what, ordinal.Check(a), want)
	c, f := ordinal.Cmp(a, tower(1))
	sameFault(t, "Cmp: "+what, f, want)
	d, f := ordinal.Cmp(tower(1), a)
	sameFault(t, "Cmp: behind 1: "+what, f, want)
	s, f := ordinal.Text(a)
	sameFault(t, "Text: "+what, f, want)
	if c != 0 || d != 0 || s != "" {
		t.Errorf("%s: %d, %d, %q beside faults", what, c, d, s)
	}
	wanted := "fault " + strconv.Itoa(want.Code) + " " + strconv.Itoa(want.At)
	for _, got := range []string{
		said(ordinal.Add(a, tower(1))),
		said(ordinal.Add(tower(1), a)),
		said(ordinal.Add(a, api.Ordinal{})),
		said(ordinal.Add(api.Ordinal{}, a)),
		said(ordinal.Mul(a, tower(2))),
		said(ordinal.Mul(tower(2), a)),
		said(ordinal.Mul(a, api.Ordinal{})),
		said(ordinal.Mul(api.Ordinal{}, a)),
		said(ordinal.Below(a, 0)),
		said(ordinal.Below(a, 5)),
		said(ordinal.Below(a, -1)),
		said(ordinal.Below(a, 1000001)),
	} {
		if got != wanted {
			t.Errorf("%s: %s, want %s", what, got, wanted)
		}
	}
}

// faulty is an ordinal with a fault.
type faulty struct {
	what string
	a    api.Ordinal
	want api.Fault
}

// itself holds itself: it has no end.
func itself() api.Ordinal {
	a := power(api.Ordinal{}, 1)
	a.Parts[0].Exp = a
	return a
}

func numbersThatMayNotStand() []faulty {
	w := tower(2)
	return []faulty{
		{"none", number(-1), fault(api.ErrRange, 0)},
		{"Many of 0", power(api.Ordinal{}, 0), fault(api.ErrRange, 0)},
		{"Many of 0, of omega", power(number(1), 0), fault(api.ErrRange, 0)},
		{"one too many", number(1000000001), fault(api.ErrRange, 0)},
		{"very many", number(1<<63 - 1), fault(api.ErrRange, 0)},
		{"very few", number(-1 << 63), fault(api.ErrRange, 0)},
		{"more than 32 bits", number(1<<32 + 1), fault(api.ErrRange, 0)},
		{"in an Exp", power(number(-1), 1), fault(api.ErrRange, 1)},
		{"in an Exp's second part", power(row(w, number(-1)), 1), fault(api.ErrRange, 3)},
		{"behind a part", row(w, number(-1)), fault(api.ErrRange, 2)},
		{"behind a part with a deep Exp", row(tower(7), power(w, -1)), fault(api.ErrRange, 7)},
		{"behind a number", row(power(number(2), 2), number(-3)), fault(api.ErrRange, 2)},
		{"a part ahead of its Exp", power(number(-1), -1), fault(api.ErrRange, 0)},
		{"an Exp ahead of the next part", row(power(number(-1), 2), number(-3)), fault(api.ErrRange, 1)},
	}
}

func ordinalsNotInForm() []faulty {
	w, none := tower(2), power(api.Ordinal{}, 0)
	return []faulty{
		{"rising", row(number(1), w), fault(api.ErrForm, 1)},
		{"the same power twice", row(w, w), fault(api.ErrForm, 2)},
		{"a number twice", row(number(3), number(3)), fault(api.ErrForm, 1)},
		{"a number twice behind others", row(w, number(3), number(2)), fault(api.ErrForm, 3)},
		{"the same large power", row(tower(5), tower(5)), fault(api.ErrForm, 5)},
		{"another Many does not help", row(power(w, 5), power(w, 2)), fault(api.ErrForm, 3)},
		{"greater by Many alone", row(power(number(2), 1), power(number(3), 1)), fault(api.ErrForm, 2)},
		{"greater by a part behind", row(power(w, 1), power(row(w, number(1)), 1)), fault(api.ErrForm, 3)},
		{"less by a part behind", row(power(row(w, number(2)), 1), power(row(w, number(1)), 1), power(w, 1), power(w, 1)), fault(api.ErrForm, 11)},
		{"in an Exp", power(row(number(1), w), 1), fault(api.ErrForm, 2)},
		{"in an Exp of an Exp", power(power(row(number(1), number(1)), 1), 1), fault(api.ErrForm, 3)},
		{"in an Exp behind a part", row(tower(9), power(row(number(1), number(1)), 1)), fault(api.ErrForm, 11)},
		{"behind what is wrong in the same part's Exp: a number", row(number(1), power(none, 1)), fault(api.ErrRange, 2)},
		{"behind what is wrong in the same part's Exp: a form", row(number(1), power(row(number(1), number(1)), 1)), fault(api.ErrForm, 3)},
		{"behind what is wrong deep in the same part's Exp", row(number(1), power(row(w, power(none, 2)), 1)), fault(api.ErrRange, 5)},
		{"behind the part's own Many", row(number(1), power(number(1), 0)), fault(api.ErrRange, 1)},
		{"ahead of the next part", row(number(1), number(1), none), fault(api.ErrForm, 1)},
		{"the first one", row(w, w, w), fault(api.ErrForm, 2)},
		{"not the part ahead in an Exp", row(power(w, 1), power(number(3), 1), power(number(3), 1)), fault(api.ErrForm, 5)},
	}
}

func ordinalsTooLarge() []faulty {
	most, none := numbered(100, 1, 7), power(api.Ordinal{}, 0)
	return []faulty{
		{"one part too many", row(most, number(1)), fault(api.ErrMany, 0)},
		{"one part too many in an Exp", power(most, 3), fault(api.ErrMany, 0)},
		{"one too deep", tower(51), fault(api.ErrMany, 0)},
		{"one too deep, at the end", row(tower(50), power(tower(48), 3), tower(51)), fault(api.ErrMany, 0)},
		{"one too many, and one too deep", row(tower(50), numbered(80, 6, 1), tower(51)), fault(api.ErrMany, 0)},
		{"one too deep where it is one too many", power(row(numbered(75, 1, 1), tower(51)), 1), fault(api.ErrMany, 0)},
		{"very many parts", api.Ordinal{Parts: make([]api.Part, 1<<20)}, fault(api.ErrRange, 0)},
		{"very deep", tower(100000), fault(api.ErrMany, 0)},
		{"it holds itself", itself(), fault(api.ErrMany, 0)},
		{"a limit ahead of a fault deep down", power(row(tower(50), number(-1)), 1), fault(api.ErrMany, 0)},
		{"a limit ahead of a Many deep down", deepened(none, 50), fault(api.ErrMany, 0)},
		{"a Many just above the limit", deepened(none, 49), fault(api.ErrRange, 49)},
		{"a limit ahead of a form at the same part", row(number(1), tower(51)), fault(api.ErrMany, 0)},
		{"a limit ahead of a Many at that part", row(most, none), fault(api.ErrMany, 0)},
		{"a limit ahead of a form at that part", row(most, power(number(1), 1)), fault(api.ErrMany, 0)},
		{"a Many ahead of the limit", row(numbered(100, 2, 1), power(number(1), 0), number(1)), fault(api.ErrRange, 198)},
		{"a form ahead of the limit", row(numbered(100, 2, 1), power(number(2), 1), number(1)), fault(api.ErrForm, 198)},
		{"the last Many that there may be", row(numbered(100, 2, 1), number(1), none), fault(api.ErrRange, 199)},
		{"a fault ahead of what is too deep", row(number(1), number(1), tower(51)), fault(api.ErrForm, 1)},
	}
}

// deepened is a below so many powers.
func deepened(a api.Ordinal, n int) api.Ordinal {
	for range n {
		a = power(a, 1)
	}
	return a
}

func faultyOrdinals() (l []faulty) {
	l = append(l, numbersThatMayNotStand()...)
	l = append(l, ordinalsNotInForm()...)
	return append(l, ordinalsTooLarge()...)
}

func TestFaultsOfOrdinals(t *testing.T) {
	l := faultyOrdinals()
	for i, c := range l {
		refused(t, c.what, c.a, c.want)
		other := l[(i+11)%len(l)]
		_, f := ordinal.Cmp(c.a, other.a)
		sameFault(t, "Cmp: "+c.what+" ahead of "+other.what, f, c.want)
		_, f = ordinal.Add(c.a, other.a)
		sameFault(t, "Add: "+c.what+" ahead of "+other.what, f, c.want)
		_, f = ordinal.Mul(c.a, other.a)
		sameFault(t, "Mul: "+c.what+" ahead of "+other.what, f, c.want)
	}
}

func TestOrdinalsInForm(t *testing.T) {
	for _, a := range []api.Ordinal{
		{},
		number(1),
		number(1000000000),
		power(number(1000000000), 1000000000),
		numbered(100, 1, 3),
		row(tower(50), tower(49), tower(48), numbered(26, 1, 1)),
		row(deepened(number(1000000000), 49), power(tower(48), 7)),
		row(tower(4), power(row(tower(2), number(2)), 1), power(row(tower(2), number(1)), 9), power(tower(2), 1), tower(2)),
	} {
		sameFault(t, text(t, a), ordinal.Check(a), api.Fault{})
	}
	if most := numbered(100, 1, 3); parts(most) != 200 {
		t.Errorf("%d parts", parts(most))
	}
	most := row(tower(50), tower(49), tower(48), numbered(27, 2, 1), number(1))
	if parts(most) != 200 || deep(most) != 50 {
		t.Errorf("%d parts, %d deep", parts(most), deep(most))
	}
	sameFault(t, "most of both", ordinal.Check(most), api.Fault{})
}

// faultAgain lists what is wrong at each part, in the order in which the chapter tells it, and takes the first of it.
func faultAgain(a api.Ordinal) api.Fault {
	var l []api.Fault
	seen := 0
	var walk func(a api.Ordinal, deep int)
	walk = func(a api.Ordinal, deep int) {
		var before []int
		for _, p := range a.Parts {
			if len(l) > 0 {
				return
			}
			at := seen
			seen++
			if at >= 200 || deep > 50 {
				l = append(l, fault(api.ErrMany, 0))
				return
			}
			if !(p.Many >= 1 && p.Many <= 1000000000) {
				l = append(l, fault(api.ErrRange, at))
			}
			walk(p.Exp, deep+1)
			if len(l) > 0 {
				return
			}
			exp := tokens(p.Exp)
			if before != nil && slices.Compare(exp, before) >= 0 {
				l = append(l, fault(api.ErrForm, at))
			}
			before = exp
		}
	}
	walk(a, 1)
	if len(l) > 0 {
		return l[0]
	}
	return api.Fault{}
}

// partsOf are where a's parts lie, in their order.
func partsOf(a api.Ordinal) (l []*api.Part) {
	for i := range a.Parts {
		l = append(l, &a.Parts[i])
		l = append(l, partsOf(a.Parts[i].Exp)...)
	}
	return l
}

// mar makes something else of a, which has parts, by chance.
func mar(chance *rand.Rand, a api.Ordinal) {
	l := partsOf(a)
	p, q := l[chance.Intn(len(l))], l[chance.Intn(len(l))]
	switch chance.Intn(5) {
	case 0:
		p.Many = [...]int{0, -1, 1000000000, 1000000001}[chance.Intn(4)]
	case 1:
		p.Exp.Parts = append(p.Exp.Parts, copyOf(q.Exp).Parts...)
	case 2:
		p.Exp = copyOf(q.Exp)
	case 3:
		copied := copyOf(api.Ordinal{Parts: []api.Part{*q}})
		p.Exp.Parts = append(p.Exp.Parts, copied.Parts...)
	case 4:
		for i := range a.Parts {
			a.Parts[i], a.Parts[0] = a.Parts[0], a.Parts[i]
		}
	}
}

func copyOf(a api.Ordinal) (out api.Ordinal) {
	for _, p := range a.Parts {
		out.Parts = append(out.Parts, api.Part{Exp: copyOf(p.Exp), Many: p.Many})
	}
	return out
}

func marred(chance *rand.Rand, size int) api.Ordinal {
	a := someOrdinal(chance, size)
	for chance.Intn(2) == 0 && len(a.Parts) > 0 {
		mar(chance, a)
	}
	return a
}

func TestMarredOrdinals(t *testing.T) {
	chance := rand.New(rand.NewSource(1))
	seen := map[api.Fault]int{}
	for i := range 40000 {
		a := marred(chance, 16)
		want := faultAgain(a)
		seen[want]++
		sameFault(t, "by chance", ordinal.Check(a), want)
		if want != (api.Fault{}) && i%10 == 0 {
			refused(t, "by chance", a, want)
		}
	}
	if len(seen) < 25 || min(seen[api.Fault{}], seen[fault(api.ErrRange, 0)], seen[fault(api.ErrRange, 3)], seen[fault(api.ErrForm, 1)], seen[fault(api.ErrForm, 4)]) < 200 {
		t.Errorf("few faults came: %v", seen)
	}
}

// TestMarredLargeOrdinals come to the limits.
func TestMarredLargeOrdinals(t *testing.T) {
	chance := rand.New(rand.NewSource(2))
	seen := map[int]int{}
	for range 3000 {
		a := row(tower(40+chance.Intn(15)), tower(30+chance.Intn(15)), numbered(40+chance.Intn(20), 1+chance.Intn(5), 1))
		for chance.Intn(3) > 0 {
			mar(chance, a)
		}
		want := faultAgain(a)
		seen[want.Code]++
		sameFault(t, "by chance", ordinal.Check(a), want)
	}
	if min(seen[api.OK], seen[api.ErrMany], seen[api.ErrForm], seen[api.ErrRange]) < 100 {
		t.Errorf("few faults came: %v", seen)
	}
}

func TestFaultsOfBelow(t *testing.T) {
	for _, n := range []int{-1 << 63, -1 << 32, -2, -1, 1000001, 1000002, 1 << 32, 1<<32 + 5, 1<<63 - 1} {
		for _, a := range []api.Ordinal{{}, number(1), tower(2), tower(3), row(tower(5), number(4))} {
			if got := said(ordinal.Below(a, n)); got != "fault 3 0" {
				t.Errorf("Below(%s, %d): %s", text(t, a), n, got)
			}
		}
	}
	for _, n := range []int{0, 1, 7, 1000000} {
		if got := said(ordinal.Below(api.Ordinal{}, n)); got != "fault 6 0" {
			t.Errorf("Below(0, %d): %s", n, got)
		}
	}
}

func TestFaultsOfGoodstein(t *testing.T) {
	wrong := []int{-1 << 63, -1 << 32, -2, -1, 1000000001, 1 << 32, 1<<32 + 3, 1<<63 - 1}
	for _, n := range wrong {
		for _, steps := range []int{-1 << 63, -1, 0, 9, 100, 101, 1<<63 - 1} {
			goodsteinRefused(t, n, steps, fault(api.ErrRange, 0))
		}
	}
	for _, steps := range []int{-1 << 63, -1 << 32, -2, -1, 101, 102, 1000, 1 << 32, 1<<32 + 3, 1<<63 - 1} {
		for _, n := range []int{0, 1, 3, 1000000000} {
			goodsteinRefused(t, n, steps, fault(api.ErrRange, 1))
		}
	}
}

func goodsteinRefused(t *testing.T, n, steps int, want api.Fault) {
	t.Helper()
	l, o, f := ordinal.Goodstein(n, steps)
	sameFault(t, "Goodstein("+strconv.Itoa(n)+", "+strconv.Itoa(steps)+")", f, want)
	if len(l) != 0 || len(o) != 0 {
		t.Errorf("Goodstein(%d, %d): lists beside a fault", n, steps)
	}
}
