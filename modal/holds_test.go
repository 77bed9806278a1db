package modal_test

import (
	"math/rand"
	"testing"

	"sequent/api"
	"sequent/modal"
)

func TestHolds(t *testing.T) {
	for _, c := range []struct {
		m    api.Model
		f    string
		want bool
	}{
		// true whatever were true
		{odd(), "p | ~p", true},
		{odd(), "1", true},
		{odd(), "[](p -> q) -> []p -> []q", true},
		{odd(), "~<>p -> []~p", true},
		{seeing(""), "[]p", true},
		{seeing(""), "[]0", true},
		{seeing("0"), "[]p -> p", true},
		{seeing("1", "0"), "p -> []<>p", true},
		// true at all worlds, as its own names are, and not whatever were true
		{having(seeing("0"), "p"), "p", false},
		{having(seeing("1", "1"), "p", "p"), "[]p & p", false},
		{having(seeing("1", ""), "p", ""), "[]p -> p", false},
		{odd(), "p | q | []p | <>p", false},
		{odd(), "r -> p", false},
		// not true at all worlds, as its own names are, either
		{seeing("0"), "p", false},
		{seeing(""), "<>p", false},
		{having(seeing("1", ""), "", "p"), "[]p -> p", false},
		{odd(), "0", false},
		{odd(), "<>1", false},
		{odd(), "~r & p", false},
	} {
		if is := held(t, c.m, read(t, c.f)); is != c.want {
			t.Errorf("%v: %s: %v", c.m, c.f, is)
		}
	}
}

// TestOwnTrue: of f that is true at all worlds some other names may speak against it, and whatever they are, what holds is true.
func TestOwnTrue(t *testing.T) {
	countTrue, countHeld := 0, 0
	for m := range frames(2) {
		for _, f := range formulasUpTo(4, "p") {
			is := held(t, m, f)
			for m.True = range trues(2, []string{"p"}) {
				if again, e := modal.Holds(m, f); e != (api.Fault{}) || again != is {
					t.Fatalf("%v: %s: %v, and with other names %v", m, text(f), is, again)
				}
				l := evaluated(t, m, f)
				isTrue := l[0] && l[1]
				if is && !isTrue {
					t.Fatalf("%v: %s holds, and is not true", m, text(f))
				}
				if isTrue {
					countTrue++
				}
				if is {
					countHeld++
				}
			}
		}
	}
	if countHeld == 0 || countHeld == countTrue {
		t.Errorf("%d held of %d true", countHeld, countTrue)
	}
}

// TestOneRowAgainst: all but one of what might be true lets f be true.
func TestOneRowAgainst(t *testing.T) {
	for n := 1; n <= 12; n++ {
		names := 12 / n
		row := n * names
		for number := 0; number < 1<<row; number += 1 + (1<<row-2)/9 {
			refusedByOneRow(t, n, names, number)
		}
		refusedByOneRow(t, n, names, 1<<row-1)
	}
}

// refusedByOneRow has n worlds in a row, and asks whether there is another row than this: digits for each world, name by name.
func refusedByOneRow(t *testing.T, n, names, number int) {
	t.Helper()
	m := api.Model{N: n, True: make([][]string, n)}
	for w := range n - 1 {
		m.Rel = append(m.Rel, [2]int{w, w + 1})
	}
	f := node(api.FTrue)
	for w := n - 1; w >= 0; w-- {
		if w < n-1 {
			f = node(api.FDia, f)
		}
		for i, s := range letters(names) {
			if number>>(w*names+i)&1 == 0 {
				s = node(api.FNot, s)
			}
			f = node(api.FAnd, s, f)
		}
	}
	if is, e := modal.Holds(m, node(api.FNot, f)); e != (api.Fault{}) || is {
		t.Errorf("%d worlds, %d names, row %b: %v, %v", n, names, number, is, e)
	}
	longer := node(api.FNot, node(api.FAnd, f, below(api.FDia, n, node(api.FTrue))))
	if is, e := modal.Holds(m, longer); e != (api.Fault{}) || !is {
		t.Errorf("%d worlds, %d names, no row: %v, %v", n, names, is, e)
	}
}

// TestLastWorldAgainst: all but one world let f be true.
func TestLastWorldAgainst(t *testing.T) {
	for n := 1; n <= 40; n++ {
		for against := range n {
			m := ring(n)
			m.Rel[against] = m.Rel[0]
			m.Rel = m.Rel[1:]
			if is, e := modal.Holds(m, read(t, "<>1")); e != (api.Fault{}) || is {
				t.Errorf("%d worlds, %d sees nothing: %v, %v", n, against, is, e)
			}
		}
		if is, e := modal.Holds(ring(n), read(t, "<>1")); e != (api.Fault{}) || !is {
			t.Errorf("%d worlds in a ring: %v, %v", n, is, e)
		}
	}
}

func TestSmallModelsHold(t *testing.T) {
	for n, most := range map[int]int{1: 5, 2: 4, 3: 3} {
		for _, f := range formulasUpTo(most, "p", "q") {
			if n == 3 && len(namesIn(f)) == 2 {
				continue // the next test has some of them
			}
			for m := range frames(n) {
				held(t, m, f)
			}
		}
	}
}

func TestAnyModelsHold(t *testing.T) {
	chance := rand.New(rand.NewSource(3))
	count := [2]int{}
	for range 3000 {
		n := 1 + chance.Intn(6)
		names := []string{"p", "q", "r", "s", "t", "u"}[:chance.Intn(12/n/(1+n/4)+1)%7]
		f := anyFormula(chance, 1+chance.Intn(9), names...)
		if chance.Intn(2) == 0 {
			f = node(api.FThen, f, anyFormula(chance, 1+chance.Intn(5), names...))
		}
		if held(t, anyModel(chance, n, "p", "q", "r"), f) {
			count[1]++
		} else {
			count[0]++
		}
	}
	if min(count[0], count[1]) < 300 {
		t.Errorf("not enough of both: %v", count)
	}
}

// TestMostDigits: worlds times names are 12 at most; a name counts once, and those of the model do not.
func TestMostDigits(t *testing.T) {
	for n := 1; n <= 40; n++ {
		m := ring(n)
		m.True[0] = []string{"x", "y", "z"}
		for names := range 27 {
			f := node(api.FTrue)
			for _, s := range letters(names) {
				f = node(api.FAnd, node(api.FOr, s, node(api.FNot, s)), f)
			}
			is, e := modal.Holds(m, f)
			switch {
			case n*names > 12 && (is || e != fault(api.ErrMany, 0)):
				t.Errorf("%d worlds, %d names: %v, %v", n, names, is, e)
			case n*names <= 12 && (!is || e != api.Fault{}):
				t.Errorf("%d worlds, %d names: %v, %v", n, names, is, e)
			}
		}
	}
	all := letters(26)
	if _, e := modal.Holds(seeing(""), joined(api.FOr, all[:13]...)); e != fault(api.ErrMany, 0) {
		t.Errorf("13 names: %v", e)
	}
	if is, e := modal.Holds(seeing(""), joined(api.FOr, all[:12]...)); e != (api.Fault{}) || is {
		t.Errorf("12 names: %v, %v", is, e)
	}
}

// TestManyOfWhatIsPlain: it is told of what is always true, too, and of names that say nothing.
func TestManyOfWhatIsPlain(t *testing.T) {
	for _, f := range []string{"p -> p", "1 | p", "0 & p -> 0", "[]p | <>~p"} {
		if is, e := modal.Holds(ring(13), read(t, f)); is || e != fault(api.ErrMany, 0) {
			t.Errorf("%s: %v, %v", f, is, e)
		}
		if is, e := modal.Holds(ring(12), read(t, f)); !is || e != (api.Fault{}) {
			t.Errorf("%s: %v, %v", f, is, e)
		}
	}
}

// TestHardHolds: all rows have to be gone through, with as many nodes as there may be.
func TestHardHolds(t *testing.T) {
	f := name("p")
	for range 97 {
		f = node(api.FBox, node(api.FDia, f))
	}
	f = node(api.FOr, f, node(api.FNot, name("p")))
	m := ring(12)
	is, e := modal.Holds(m, f)
	if e != (api.Fault{}) || is {
		t.Errorf("194 on: %v, %v", is, e)
	}
	f = joined(api.FOr, below(api.FBox, 192, name("p")), node(api.FNot, name("p")))
	if is, e = modal.Holds(m, f); e != (api.Fault{}) || !is {
		t.Errorf("192 on, where the ring has come round: %v, %v", is, e)
	}
}
