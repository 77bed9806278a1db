package ordinal_test

import (
	"math/rand"
	"slices"
	"strconv"
	"strings"
	"testing"

	"sequent/api"
	"sequent/ordinal"
)

// line is a hydra as deep as this, with one head.
func line(deep int) (h api.Hydra) {
	for range deep - 1 {
		h = api.Hydra{Kids: []api.Hydra{h}}
	}
	return h
}

// brush has so many heads.
func brush(heads int) api.Hydra { return api.Hydra{Kids: make([]api.Hydra, heads)} }

func over(l ...api.Hydra) api.Hydra { return api.Hydra{Kids: l} }

func nodes(h api.Hydra) int { return 1 + strings.Count(hydraText(h), "1") }

func hydraDeep(h api.Hydra) int {
	n := 0
	for _, k := range h.Kids {
		n = max(n, hydraDeep(k))
	}
	return n + 1
}

func measured(t *testing.T, h api.Hydra) api.Ordinal {
	t.Helper()
	a, f := ordinal.Measure(h)
	sameFault(t, "Measure", f, api.Fault{})
	return a
}

func TestMeasure(t *testing.T) {
	for _, c := range []struct{ h, want string }{
		{"", "0"},
		{"10", "1"},
		{"101010", "3"},
		{"1100", "w"},
		{"110010", "w+1"},
		{"101100", "w+1"},
		{"10110010", "w+2"},
		{"11001100", "w*2"},
		{"110100", "w^(2)"},
		{"1011001101001100", "w^(2)+w*2+1"},
		{"111000", "w^(w)"},
		{"11011000", "w^(w+1)"},
		{"11100100", "w^(w+1)"},
		{"1110010011011000", "w^(w+1)*2"},
		{"111100001011100010", "w^(w^(w))+w^(w)+2"},
	} {
		if got := text(t, measured(t, hydra(c.h))); got != c.want {
			t.Errorf("%s: %s, want %s", c.h, got, c.want)
		}
	}
}

func TestMeasureByChance(t *testing.T) {
	chance := rand.New(rand.NewSource(6))
	for range 3000 {
		h := someTree(chance, chance.Intn(60))
		if got := measured(t, hydra(h)); !isSame(got, shortOf(inOrder(h))) {
			t.Errorf("%s: %v", h, got)
		}
	}
}

// TestMeasuresOfLargeHydras need not pass Check: they may have more parts, and be deeper.
func TestMeasuresOfLargeHydras(t *testing.T) {
	chance := rand.New(rand.NewSource(7))
	many, deepest := 0, 0
	for range 60 {
		h := someTree(chance, 999)
		if chance.Intn(2) == 0 {
			h = hydraText(over(line(54), hydra(someTree(chance, 900))))
		}
		if hydraDeep(hydra(h)) > 60 {
			continue
		}
		got := measured(t, hydra(h))
		if !isSame(got, shortOf(inOrder(h))) {
			t.Errorf("%s: %v", h, got)
		}
		many, deepest = max(many, parts(got)), max(deepest, deep(got))
	}
	if many <= api.MaxNodes || deepest <= 50 {
		t.Errorf("%d parts and %d deep at most", many, deepest)
	}
}

// hydrasTooLarge are those of which Measure says something.
func hydrasTooLarge() []api.Hydra {
	endless := brush(1)
	endless.Kids[0] = endless
	growing := brush(2)
	growing.Kids[1] = growing
	return []api.Hydra{
		brush(1000),
		brush(1001),
		brush(1 << 20),
		over(brush(998), api.Hydra{}),
		over(api.Hydra{}, brush(998)),
		over(brush(499), brush(499)),
		line(61),
		line(62),
		line(10000),
		over(api.Hydra{}, line(60)),
		over(line(60), api.Hydra{}),
		endless,
		growing,
	}
}

func TestFaultsOfMeasure(t *testing.T) {
	for i, h := range hydrasTooLarge() {
		if got := said(ordinal.Measure(h)); got != "fault 2 0" {
			t.Errorf("Measure of the hydra %d: %s", i, got)
		}
	}
	for _, h := range []api.Hydra{brush(999), over(brush(997), api.Hydra{}), over(brush(498), brush(498)), line(60), over(line(59), brush(900)), over(line(59), line(59))} {
		if got := measured(t, h); !isSame(got, shortOf(inOrder(hydraText(h)))) {
			t.Errorf("%d nodes: %v", nodes(h), got)
		}
	}
	if got := said(ordinal.Measure(brush(999))); got != "999" {
		t.Errorf("%s", got)
	}
	if got := measured(t, line(60)); !isSame(got, tower(59)) {
		t.Errorf("%v", got)
	}
}

func toldWay(way []int) string {
	var l []string
	for _, number := range way {
		l = append(l, strconv.Itoa(number))
	}
	return strings.Join(l, " ")
}

func chop(t *testing.T, h api.Hydra, way []int, n int) api.Hydra {
	t.Helper()
	got, f := ordinal.Chop(h, way, n)
	sameFault(t, "Chop: "+hydraText(h)+": "+toldWay(way), f, api.Fault{})
	return got
}

func TestChop(t *testing.T) {
	for _, c := range []struct {
		h    string
		way  []int
		n    int
		want string
	}{
		{"10", []int{0}, 0, ""},
		{"10", []int{0}, 1000, ""},
		{"101010", []int{1}, 5, "1010"},
		{"1011001100", []int{0}, 5, "11001100"},
		{"11001011010010", []int{1}, 5, "110011010010"},
		{"1100", []int{0, 0}, 0, "10"},
		{"1100", []int{0, 0}, 1, "1010"},
		{"1100", []int{0, 0}, 3, "10101010"},
		{"110100", []int{0, 1}, 0, "1100"},
		{"110100", []int{0, 1}, 2, "110011001100"},
		{"10110011010010", []int{2, 0}, 1, "1011001100101100"},
		{"10110011010010", []int{1, 0}, 2, "1010110100101010"},
		{"111000", []int{0, 0, 0}, 2, "11010100"},
		{"1011100100", []int{1, 0, 0}, 2, "101101010100"},
		{"111011001000", []int{0, 0, 1, 0}, 1, "111010101000"},
	} {
		if got := hydraText(chop(t, hydra(c.h), c.way, c.n)); got != c.want {
			t.Errorf("Chop(%s, %s, %d): %s, want %s", c.h, toldWay(c.way), c.n, got, c.want)
		}
	}
}

// everyHead asks for each head of h, and holds the answer against what is done with the text, and its Measure against that of h.
func everyHead(t *testing.T, h string, l ...int) {
	t.Helper()
	before := inOrder(h)
	for _, way := range ways(hydra(h)) {
		for _, n := range l {
			got := hydraText(chop(t, hydra(h), way, n))
			if got != chopAgain(h, way, n) {
				t.Errorf("Chop(%s, %s, %d): %s", h, toldWay(way), n, got)
			}
			if inOrder(got) >= before {
				t.Errorf("Chop(%s, %s, %d): %s does not measure less", h, toldWay(way), n, got)
			}
			if hydraDeep(hydra(got)) > hydraDeep(hydra(h)) {
				t.Errorf("Chop(%s, %s, %d): %s is deeper", h, toldWay(way), n, got)
			}
		}
	}
}

func TestChopEveryHead(t *testing.T) {
	for _, h := range longForms(6) {
		everyHead(t, h, 0, 1, 2, 5)
	}
	chance := rand.New(rand.NewSource(8))
	for range 300 {
		everyHead(t, someTree(chance, chance.Intn(25)), 0, 1, 3, 17)
	}
}

// TestMeasureFalls asks the calls alone.
func TestMeasureFalls(t *testing.T) {
	for _, text := range longForms(6) {
		h := hydra(text)
		for _, way := range ways(h) {
			for _, n := range []int{0, 1, 2, 100} {
				c, f := ordinal.Cmp(measured(t, chop(t, h, way, n)), measured(t, h))
				sameFault(t, "Cmp", f, api.Fault{})
				if c != -1 {
					t.Errorf("Chop(%s, %s, %d) does not measure less", text, toldWay(way), n)
				}
			}
		}
	}
}

// TestSlain: whichever heads go, there is an end.
func TestSlain(t *testing.T) {
	chance := rand.New(rand.NewSource(9))
	for _, text := range []string{"1100", "110100", "11011000", "1110010010", "10110011010010", "111000"} {
		for range 20 {
			h, last := hydra(text), "2"
			for len(h.Kids) > 0 {
				l := ways(h)
				h = chop(t, h, l[chance.Intn(len(l))], chance.Intn(3))
				now := inOrder(hydraText(h))
				if now >= last {
					t.Fatalf("%s comes to %s", text, hydraText(h))
				}
				last = now
			}
		}
	}
}

// chopRefused asks where something is wrong.
func chopRefused(t *testing.T, what string, h api.Hydra, way []int, n int, want api.Fault) {
	t.Helper()
	got, f := ordinal.Chop(h, way, n)
	sameFault(t, what, f, want)
	if len(got.Kids) > 0 {
		t.Errorf("%s: a hydra beside a fault", what)
	}
}

func TestFaultsOfHydras(t *testing.T) {
	for i, h := range hydrasTooLarge() {
		for _, way := range [][]int{nil, {0}, {0, 0}, {-1}, {5, 5}, make([]int, 101)} {
			for _, n := range []int{0, 1, -1, 1001} {
				chopRefused(t, "the hydra "+strconv.Itoa(i), h, way, n, fault(api.ErrMany, 0))
			}
		}
	}
	for _, n := range []int{-1 << 63, -1 << 32, -2, -1, 1001, 1002, 1 << 32, 1<<32 + 1, 1<<63 - 1} {
		for _, h := range []api.Hydra{{}, brush(3), line(3), brush(999)} {
			for _, way := range [][]int{nil, {}, {0}, {0, 0}, {-1}, {7}, make([]int, 101)} {
				chopRefused(t, "n: "+strconv.Itoa(n), h, way, n, fault(api.ErrRange, 0))
			}
		}
	}
}

func TestFaultsOfWays(t *testing.T) {
	h := over(brush(2), api.Hydra{}, over(line(3), brush(3)))
	far := make([]int, 100)
	for _, c := range []struct {
		what string
		h    api.Hydra
		way  []int
		want api.Fault
	}{
		{"nil", h, nil, fault(api.ErrNone, 0)},
		{"empty", h, []int{}, fault(api.ErrNone, 0)},
		{"empty, and there is no head but h", api.Hydra{}, nil, fault(api.ErrNone, 0)},
		{"101 entries", h, make([]int, 101), fault(api.ErrNone, 0)},
		{"101 entries, the second of which is no Kid", h, append([]int{1, 9}, make([]int, 99)...), fault(api.ErrNone, 0)},
		{"very many entries", line(60), make([]int, 1<<20), fault(api.ErrNone, 0)},
		{"100 entries", line(60), far, fault(api.ErrNone, 59)},
		{"100 entries, the second of which is no Kid", h, append([]int{1}, far[1:]...), fault(api.ErrNone, 1)},
		{"no Kid of a head", api.Hydra{}, []int{0}, fault(api.ErrNone, 0)},
		{"one behind the last Kid", h, []int{3}, fault(api.ErrNone, 0)},
		{"below 0", h, []int{-1}, fault(api.ErrNone, 0)},
		{"far below 0", h, []int{-1 << 63}, fault(api.ErrNone, 0)},
		{"far above", h, []int{1<<63 - 1}, fault(api.ErrNone, 0)},
		{"above 32 bits", h, []int{1 << 32, 0}, fault(api.ErrNone, 0)},
		{"a Kid of a head", h, []int{1, 0}, fault(api.ErrNone, 1)},
		{"one behind the last Kid of a Kid", h, []int{0, 2}, fault(api.ErrNone, 1)},
		{"below 0 at the second", h, []int{0, -1}, fault(api.ErrNone, 1)},
		{"the first of two", h, []int{0, 2, 5}, fault(api.ErrNone, 1)},
		{"the third", h, []int{2, 0, 1, 0}, fault(api.ErrNone, 2)},
		{"behind a head far down", h, []int{2, 0, 0, 0, 0}, fault(api.ErrNone, 4)},
		{"it has Kids", h, []int{0}, fault(api.ErrKind, 1)},
		{"it has one Kid", h, []int{2, 0}, fault(api.ErrKind, 2)},
		{"it has one Kid, further on", h, []int{2, 0, 0}, fault(api.ErrKind, 3)},
		{"it has Kids, behind others", h, []int{2, 1}, fault(api.ErrKind, 2)},
		{"it has Kids, ahead of what would grow", over(brush(900), over(brush(2))), []int{1, 0}, fault(api.ErrKind, 2)},
	} {
		for _, n := range []int{0, 1, 1000} {
			chopRefused(t, c.what, c.h, c.way, n, c.want)
		}
	}
	for n := 1; n < 59; n++ {
		chopRefused(t, "on the way down", line(60), make([]int, n), 1, fault(api.ErrKind, n))
	}
}

// TestGrownTooLarge: all nodes are counted, of those that grow as they are without the head.
func TestGrownTooLarge(t *testing.T) {
	for _, c := range []struct {
		what string
		h    api.Hydra
		way  []int
		n    int
		is   bool
	}{
		{"nothing grows", brush(999), []int{998}, 1000, true},
		{"nothing grows of what is large", over(brush(997), api.Hydra{}), []int{1}, 1000, true},
		{"heads", line(3), []int{0, 0}, 998, true},
		{"a head too many", line(3), []int{0, 0}, 999, false},
		{"the most that may be asked for", line(3), []int{0, 0}, 1000, false},
		{"nodes with a head", over(brush(2)), []int{0, 1}, 498, true},
		{"nodes with a head, one too many", over(brush(2)), []int{0, 1}, 499, false},
		{"in a hydra that has others", over(brush(2), brush(500)), []int{0, 1}, 248, true},
		{"in a hydra that has others, one too many", over(brush(2), brush(500)), []int{0, 1}, 249, false},
		{"one less than there may be", over(brush(2), brush(495)), []int{0, 1}, 250, true},
		{"one more than there may be", over(brush(2), brush(495)), []int{0, 1}, 251, false},
		{"just as many once", over(brush(500)), []int{0, 7}, 0, true},
		{"just as many twice", over(brush(500)), []int{0, 7}, 1, false},
		{"half", over(brush(499)), []int{0, 7}, 1, true},
		{"large, and none grows", over(brush(998)), []int{0, 7}, 0, true},
		{"large, and one grows", over(brush(998)), []int{0, 7}, 1, false},
		{"deep", line(60), make([]int, 59), 941, true},
		{"deep, and a head too many", line(60), make([]int, 59), 942, false},
		{"only the last of the way is counted", over(over(brush(3), brush(300)), brush(400)), []int{0, 0, 1}, 97, true},
		{"only the last of the way, one too many", over(over(brush(3), brush(300)), brush(400)), []int{0, 0, 1}, 98, false},
	} {
		if !c.is {
			chopRefused(t, c.what, c.h, c.way, c.n, fault(api.ErrMuch, 0))
			continue
		}
		got := hydraText(chop(t, c.h, c.way, c.n))
		if got != chopAgain(hydraText(c.h), c.way, c.n) || strings.Count(got, "1")+1 > api.MaxList {
			t.Errorf("%s: %s", c.what, got)
		}
	}
	full := chop(t, line(3), []int{0, 0}, 998)
	if nodes(full) != 1000 {
		t.Errorf("%d nodes", nodes(full))
	}
}

// chopFaultAgain goes through what the chapter names.
func chopFaultAgain(h api.Hydra, way []int, n int) api.Fault {
	if n < 0 || n > 1000 {
		return fault(api.ErrRange, 0)
	}
	if len(way) == 0 || len(way) > 100 {
		return fault(api.ErrNone, 0)
	}
	all := []api.Hydra{h}
	for at, number := range way {
		here := all[at].Kids
		if !slices.Contains([]int{0, 1, 2, 3, 4, 5, 6, 7, 8, 9}[:min(len(here), 10)], number) {
			return fault(api.ErrNone, at)
		}
		all = append(all, here[number])
	}
	if len(all[len(way)].Kids) > 0 {
		return fault(api.ErrKind, len(way))
	}
	if len(chopAgain(hydraText(h), way, n))/2+1 > 1000 {
		return fault(api.ErrMuch, 0)
	}
	return api.Fault{}
}

func TestWaysByChance(t *testing.T) {
	chance := rand.New(rand.NewSource(10))
	seen := map[api.Fault]int{}
	for range 20000 {
		q := someChop(chance)
		want := chopFaultAgain(q.h, q.way, q.n)
		seen[want]++
		if want != (api.Fault{}) {
			chopRefused(t, hydraText(q.h)+": "+toldWay(q.way), q.h, q.way, q.n, want)
		} else if got := hydraText(chop(t, q.h, q.way, q.n)); got != chopAgain(hydraText(q.h), q.way, q.n) {
			t.Errorf("Chop(%s, %s, %d): %s", hydraText(q.h), toldWay(q.way), q.n, got)
		}
	}
	if len(seen) < 12 || min(seen[api.Fault{}], seen[fault(api.ErrRange, 0)], seen[fault(api.ErrNone, 0)], seen[fault(api.ErrNone, 2)], seen[fault(api.ErrKind, 1)], seen[fault(api.ErrKind, 2)], seen[fault(api.ErrMuch, 0)]) < 100 {
		t.Errorf("few faults came: %v", seen)
	}
}

// cut is a question that Chop is asked.
type cut struct {
	h   api.Hydra
	way []int
	n   int
}

func someChop(chance *rand.Rand) cut {
	q := cut{h: hydra(someTree(chance, chance.Intn(20))), n: chance.Intn(5)}
	node := q.h
	for len(node.Kids) > 0 && len(node.Kids) < 10 && chance.Intn(15) > 0 {
		number := chance.Intn(len(node.Kids))
		q.way = append(q.way, number)
		node = node.Kids[number]
	}
	switch chance.Intn(8) {
	case 0:
		q.n = chance.Intn(1100) - 40
	case 1:
		q.way = append(q.way, chance.Intn(3))
	case 2:
		if len(q.way) > 0 {
			q.way[chance.Intn(len(q.way))] += chance.Intn(5) - 2
		}
	}
	return q
}
