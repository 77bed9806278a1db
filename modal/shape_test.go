package modal_test

import (
	"maps"
	"math/rand"
	"slices"
	"testing"

	"sequent/api"
	"sequent/modal"
)

// TestShape has one of each shape that there is: each of the six digits alone 1 and alone 0, as far as that can be.
func TestShape(t *testing.T) {
	for _, c := range []struct {
		m    api.Model
		want string
	}{
		{seeing("1", "2", ""), "000000"},
		{seeing("1", "2", "0"), "000010"},
		{seeing("12", "12", "12", "12"), "010110"},
		{seeing("1", "12", "12"), "000110"},
		{seeing("1", "12", "12", ""), "000100"},
		{seeing("1", "0", ""), "001000"},
		{seeing("1", "02", "1"), "001010"},
		{seeing("01", ""), "010000"},
		{seeing("1", ""), "010001"},
		{seeing("01", "1", "0"), "000010"},
		{seeing("01", "1", "01"), "010010"},
		{seeing("1", "1", ""), "010100"},
		{seeing("1", "1"), "010110"},
		{seeing("0", ""), "011100"},
		{seeing("", ""), "011101"},
		{seeing("01", "12", "2"), "100010"},
		{seeing("01", "012", "12"), "101010"},
		{seeing("01", "1"), "110010"},
		{seeing("01", "01"), "111110"},
		// one world
		{seeing(""), "011101"},
		{seeing("0"), "111110"},
		// all see all, and all see themselves alone
		{seeing("012", "012", "012"), "111110"},
		{seeing("0", "1", "2"), "111110"},
		// one pair too few, or too many
		{seeing("12", "2", ""), "010001"},
		{seeing("1", "2", "", ""), "000000"},
		{seeing("12", "2", "2"), "010010"},
		{seeing("12", "12", "1"), "000010"},
	} {
		if is := shaped(t, c.m); bits(is) != c.want {
			t.Errorf("%v: %s, want %s", c.m.Rel, bits(is), c.want)
		}
	}
}

// TestAllShapes goes through all models with up to four worlds: no other shapes come than these 17.
func TestAllShapes(t *testing.T) {
	count := map[string]int{}
	for n := 1; n <= 4; n++ {
		for m := range frames(n) {
			is := shaped(t, m)
			count[bits(is)]++
			follows(t, m, is)
		}
	}
	want := []string{
		"000000", "000010", "000100", "000110", "001000", "001010", "010000", "010001", "010010",
		"010100", "010110", "011100", "011101", "100010", "101010", "110010", "111110",
	}
	if l := slices.Sorted(maps.Keys(count)); !slices.Equal(l, want) {
		t.Errorf("%v", l)
	}
	for shape, many := range map[string]int{"011101": 4, "111110": 1 + 2 + 5 + 15, "010001": 2 + 18 + 218} {
		if count[shape] != many {
			t.Errorf("%s came %d times, want %d", shape, count[shape], many)
		}
	}
}

// follows looks at what must be so where others are.
func follows(t *testing.T, m api.Model, is [6]bool) {
	t.Helper()
	itself, passed, back, shared, some, ends := is[0], is[1], is[2], is[3], is[4], is[5]
	for what, isSo := range map[string]bool{
		"who sees itself sees some":                               !itself || some,
		"the sixth is the second, and more":                       !ends || passed,
		"the sixth speaks against the first and the fifth":        !ends || !itself && !some,
		"who is seen back, and passes on, shares":                 !back || !passed || shared,
		"who is seen back, and shares, passes on":                 !back || !shared || passed,
		"who sees itself, and shares, is seen back":               !itself || !shared || back && passed,
		"who sees some, is seen back, and passes on, sees itself": !some || !back || !passed || itself,
		"who sees some, is seen back, and shares, sees itself":    !some || !back || !shared || itself,
	} {
		if !isSo {
			t.Fatalf("%v: %s: %s", m, what, bits(is))
		}
	}
}

// corresponding are the chapter's six formulas.
func corresponding(t *testing.T) []api.Formula {
	var l []api.Formula
	for _, s := range []string{"[]p -> p", "[]p -> [][]p", "p -> []<>p", "<>p -> []<>p", "[]p -> <>p", "[]([]p -> p) -> []p"} {
		l = append(l, read(t, s))
	}
	return l
}

// TestWhatFollows: the six are so just where these hold, in all models with up to four worlds.
func TestWhatFollows(t *testing.T) {
	six := corresponding(t)
	for n := 1; n <= 4; n++ {
		for m := range frames(n) {
			holdJustThere(t, m, six)
		}
	}
}

func holdJustThere(t *testing.T, m api.Model, six []api.Formula) {
	t.Helper()
	is, e := modal.Shape(m)
	if e != (api.Fault{}) {
		t.Fatalf("%v: %v", m, e)
	}
	for i, f := range six {
		if holds, e := modal.Holds(m, f); e != (api.Fault{}) || holds != is[i] {
			t.Fatalf("%v: %s holds: %v, %v, and the shape is %s", m, text(f), holds, e, bits(is))
		}
	}
}

// TestWhatFollowsOfMore has models with up to twelve worlds, made so that each shape comes.
func TestWhatFollowsOfMore(t *testing.T) {
	six := corresponding(t)
	chance := rand.New(rand.NewSource(4))
	count := map[string]int{}
	for range 600 {
		m := anyModel(chance, 5+chance.Intn(8), "p")
		m.Rel = m.Rel[:min(len(m.Rel), chance.Intn(3*m.N))]
		mended(&m, chance.Intn(32))
		count[bits(shaped(t, m))]++
		holdJustThere(t, m, six)
	}
	if len(count) < 15 {
		t.Errorf("few shapes came: %v", count)
	}
}

// mended adds pairs until the shapes are so for which there is a digit.
func mended(m *api.Model, digits int) {
	is := func(i int) bool { return digits>>i&1 == 1 }
	for was := -1; was != len(m.Rel); {
		was = len(m.Rel)
		add := func(u, v int) {
			if !slices.Contains(m.Rel, [2]int{u, v}) {
				m.Rel = append(m.Rel, [2]int{u, v})
			}
		}
		for w := range m.N {
			seesSome := slices.ContainsFunc(m.Rel, func(pair [2]int) bool { return pair[0] == w })
			if is(0) || is(4) && !seesSome {
				add(w, w)
			}
		}
		for _, one := range slices.Clone(m.Rel) {
			if is(2) {
				add(one[1], one[0])
			}
			for _, other := range slices.Clone(m.Rel) {
				if is(1) && one[1] == other[0] {
					add(one[0], other[1])
				}
				if is(3) && one[0] == other[0] {
					add(one[1], other[1])
				}
			}
		}
	}
}

// TestNamesHaveNoShape: what is true at the worlds does not matter.
func TestNamesHaveNoShape(t *testing.T) {
	for m := range frames(2) {
		want := shaped(t, m)
		for m.True = range trues(2, []string{"p", "q"}) {
			if is := shaped(t, m); is != want {
				t.Errorf("%v: %v, want %v", m, is, want)
			}
		}
	}
}

func TestGreatShapes(t *testing.T) {
	for _, n := range []int{31, 32, 33, 39, 40} {
		whole, row := api.Model{N: n, True: make([][]string, n)}, api.Model{N: n, True: make([][]string, n)}
		for u := range n {
			for v := range n {
				whole.Rel = append(whole.Rel, [2]int{u, v})
				if u < v {
					row.Rel = append(row.Rel, [2]int{u, v})
				}
			}
		}
		for _, c := range []struct {
			m    api.Model
			want string
		}{
			{whole, "111110"},
			{row, "010001"},
			{ring(n), "000010"},
			{api.Model{N: n, True: whole.True}, "011101"},
			{api.Model{N: n, Rel: whole.Rel[1:], True: whole.True}, "001010"},
			{api.Model{N: n, Rel: whole.Rel[:n*n-1], True: whole.True}, "001010"},
			{api.Model{N: n, Rel: whole.Rel[:n*n-n], True: whole.True}, "010000"},
			{api.Model{N: n, Rel: row.Rel[1:], True: row.True}, "010001"},
			{api.Model{N: n, Rel: slices.Concat(row.Rel, [][2]int{{n - 1, n - 1}}), True: row.True}, "010010"},
			{api.Model{N: n, Rel: slices.Concat(row.Rel, [][2]int{{n - 1, 0}}), True: row.True}, "000010"},
		} {
			if is := shaped(t, c.m); bits(is) != c.want {
				t.Errorf("%d worlds, %d pairs: %s, want %s", n, len(c.m.Rel), bits(is), c.want)
			}
		}
	}
}
