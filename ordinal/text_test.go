package ordinal_test

import (
	"math/rand"
	"strings"
	"testing"

	"sequent/api"
	"sequent/ordinal"
)

func TestText(t *testing.T) {
	one, two, w := number(1), number(2), power(number(1), 1)
	for _, c := range []struct {
		a    api.Ordinal
		want string
	}{
		{api.Ordinal{}, "0"},
		{api.Ordinal{Parts: []api.Part{}}, "0"},
		{one, "1"},
		{two, "2"},
		{number(1000000000), "1000000000"},
		{w, "w"},
		{power(one, 2), "w*2"},
		{power(one, 1000000000), "w*1000000000"},
		{power(two, 1), "w^(2)"},
		{power(two, 3), "w^(2)*3"},
		{power(number(10), 10), "w^(10)*10"},
		{power(w, 1), "w^(w)"},
		{power(w, 2), "w^(w)*2"},
		{power(power(one, 2), 1), "w^(w*2)"},
		{row(w, one), "w+1"},
		{row(w, two), "w+2"},
		{row(power(one, 2), number(7)), "w*2+7"},
		{power(row(w, one), 1), "w^(w+1)"},
		{power(power(two, 1), 1), "w^(w^(2))"},
		{power(power(w, 1), 1), "w^(w^(w))"},
		{row(power(w, 2), w, number(3)), "w^(w)*2+w+3"},
		{row(power(row(power(w, 3), power(two, 2), number(9)), 4), power(row(w, two), 1), power(two, 5), power(one, 6)), "w^(w^(w)*3+w^(2)*2+9)*4+w^(w+2)+w^(2)*5+w*6"},
	} {
		if got := text(t, c.a); got != c.want {
			t.Errorf("%v: %s, want %s", c.a, got, c.want)
		}
	}
}

// TestTextsAreRead: each text tells which ordinal it is of.
func TestTextsAreRead(t *testing.T) {
	l := shortForms(8)
	seen := map[string]bool{}
	for _, a := range l {
		s := text(t, a)
		if !isSame(read(s), a) || seen[s] {
			t.Errorf("%v: %s", a, s)
		}
		seen[s] = true
	}
	chance := rand.New(rand.NewSource(4))
	large := 0
	for range 3000 {
		a := someOrdinal(chance, 60)
		for _, p := range partsOf(a) {
			p.Many += [...]int{0, 0, 1, 9, 999999900}[chance.Intn(5)]
		}
		if ordinal.Check(a) != (api.Fault{}) {
			continue
		}
		s := text(t, a)
		if !isSame(read(s), a) {
			t.Errorf("%v: %s", a, s)
		}
		if len(s) > 100 {
			large++
		}
	}
	if large < 100 {
		t.Errorf("%d are large", large)
	}
}

func TestTextsOfLargeOnes(t *testing.T) {
	if got, want := text(t, tower(50)), strings.Repeat("w^(", 48)+"w"+strings.Repeat(")", 48); got != want {
		t.Errorf("%s, want %s", got, want)
	}
	var l []string
	for _, p := range numbered(100, 1, 1000000000).Parts {
		l = append(l, text(t, power(p.Exp, 1000000000)))
	}
	if got := text(t, numbered(100, 1, 1000000000)); got != strings.Join(l, "+") || !strings.HasPrefix(got, "w^(100)*1000000000+w^(99)*") || !strings.HasSuffix(got, "+w*1000000000") {
		t.Errorf("%s", got)
	}
}
