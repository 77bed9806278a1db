package ordinal_test

import (
	"math/rand"
	"reflect"
	"slices"
	"strconv"
	"strings"
	"testing"

	"sequent/api"
	"sequent/ordinal"
)

func fault(code, at int) api.Fault { return api.Fault{Code: code, At: at} }

func sameFault(t *testing.T, what string, got, want api.Fault) {
	t.Helper()
	if got != want {
		t.Errorf("%s: fault %v, want %v", what, got, want)
	}
}

// power is omega to the power of exp, so many times.
func power(exp api.Ordinal, many int) api.Ordinal {
	return api.Ordinal{Parts: []api.Part{{Exp: exp, Many: many}}}
}

func number(n int) api.Ordinal {
	if n == 0 {
		return api.Ordinal{}
	}
	return power(api.Ordinal{}, n)
}

// row has these parts, one behind the other.
func row(l ...api.Ordinal) (out api.Ordinal) {
	for _, a := range l {
		out.Parts = append(out.Parts, a.Parts...)
	}
	return out
}

// tower is as deep as this: w^(w^(.. 1)).
func tower(deep int) (a api.Ordinal) {
	for range deep {
		a = power(a, 1)
	}
	return a
}

// numbered has the powers from the greater number down to the lesser one, each so many times.
func numbered(from, to, many int) api.Ordinal {
	var l []api.Ordinal
	for n := from; n >= to; n-- {
		l = append(l, power(number(n), many))
	}
	return row(l...)
}

// parts counts those of a, and of their Exps.
func parts(a api.Ordinal) int {
	n := 0
	for _, p := range a.Parts {
		n += 1 + parts(p.Exp)
	}
	return n
}

func deep(a api.Ordinal) int {
	n := 0
	for _, p := range a.Parts {
		n = max(n, 1+deep(p.Exp))
	}
	return n
}

// read reads what Text writes.
func read(text string) api.Ordinal {
	a, left := readSum(text)
	if left != "" {
		panic(text + ": " + left + " is left")
	}
	return a
}

func readSum(text string) (a api.Ordinal, left string) {
	if text != "" && text[0] == '0' {
		return a, text[1:]
	}
	for {
		var p api.Part
		p, text = readPart(text)
		a.Parts = append(a.Parts, p)
		if !strings.HasPrefix(text, "+") {
			return a, text
		}
		text = text[1:]
	}
}

func readPart(text string) (p api.Part, left string) {
	if text == "" || text[0] != 'w' {
		p.Many, left = readNumber(text)
		return p, left
	}
	p.Exp, p.Many, left = number(1), 1, text[1:]
	if strings.HasPrefix(left, "^(") {
		p.Exp, left = readSum(left[2:])
		if left == "" || left[0] != ')' {
			panic(text + ": no bracket")
		}
		left = left[1:]
	}
	if strings.HasPrefix(left, "*") {
		p.Many, left = readNumber(left[1:])
	}
	return p, left
}

func readNumber(text string) (n int, left string) {
	left = strings.TrimLeft(text, "0123456789")
	n, err := strconv.Atoi(text[:len(text)-len(left)])
	if err != nil {
		panic(err)
	}
	return n, left
}

// tokens of ordinals in their form are ordered by their first difference as the ordinals are: 1 ahead of each part, 0 behind the last one.
func tokens(a api.Ordinal) []int { return withTokens(nil, a) }

func withTokens(l []int, a api.Ordinal) []int {
	for _, p := range a.Parts {
		l = append(withTokens(append(l, 1), p.Exp), p.Many)
	}
	return append(l, 0)
}

func compareAgain(a, b api.Ordinal) int { return slices.Compare(tokens(a), tokens(b)) }

func isSame(a, b api.Ordinal) bool { return compareAgain(a, b) == 0 }

func isLess(a, b api.Ordinal) bool { return compareAgain(a, b) < 0 }

// isLimit: neither 0 nor one more than anything.
func isLimit(a api.Ordinal) bool {
	return len(a.Parts) > 0 && len(a.Parts[len(a.Parts)-1].Exp.Parts) > 0
}

// The LONG FORM of an ordinal is a text: each power is written as often as it comes, as 1, the long form of its exponent, 0. Long forms are ordered as bytes are.

// exponents takes a long form apart, or a hydra's text.
func exponents(long string) []string {
	var l []string
	open, begin := 0, 0
	for at, c := range long {
		open += 2*int(c-'0') - 1
		if open == 0 {
			l = append(l, long[begin+1:at])
			begin = at + 1
		}
	}
	return l
}

func longOf(a api.Ordinal) string {
	var b strings.Builder
	for _, p := range a.Parts {
		b.WriteString(strings.Repeat("1"+longOf(p.Exp)+"0", p.Many))
	}
	return b.String()
}

func shortOf(long string) (a api.Ordinal) {
	before := "none"
	for _, e := range exponents(long) {
		if e == before {
			a.Parts[len(a.Parts)-1].Many++
		} else {
			a.Parts = append(a.Parts, api.Part{Exp: shortOf(e), Many: 1})
		}
		before = e
	}
	return a
}

// addAgain adds long forms.
func addAgain(a, b string) string {
	if b == "" {
		return a
	}
	var out strings.Builder
	for _, e := range exponents(a) {
		if e >= exponents(b)[0] {
			out.WriteString("1" + e + "0")
		}
	}
	return out.String() + b
}

// mulAgain adds for each power of b what a comes to, that often.
func mulAgain(a, b string) (out string) {
	if a == "" {
		return ""
	}
	for _, e := range exponents(b) {
		if e == "" {
			out = addAgain(out, a)
		} else {
			out = addAgain(out, "1"+addAgain(exponents(a)[0], e)+"0")
		}
	}
	return out
}

func belowAgain(a string, n int) string {
	l := exponents(a)
	c := l[len(l)-1]
	b := strings.TrimSuffix(a, "1"+c+"0")
	switch {
	case c == "":
		return b
	case strings.HasSuffix(c, "10") && exponents(c)[len(exponents(c))-1] == "":
		return b + strings.Repeat("1"+strings.TrimSuffix(c, "10")+"0", n)
	}
	return b + "1" + belowAgain(c, n) + "0"
}

// inOrder is the long form with the same powers, the greatest ones first.
func inOrder(tree string) string {
	l := exponents(tree)
	for i, e := range l {
		l[i] = "1" + inOrder(e) + "0"
	}
	slices.Sort(l)
	slices.Reverse(l)
	return strings.Join(l, "")
}

// longForms are all long forms with at most so many powers in all, the least first.
func longForms(most int) []string {
	all, last := []string{""}, []string{""}
	for range most {
		var next []string
		for _, a := range last {
			for at := range len(a) + 1 {
				next = append(next, inOrder(a[:at]+"10"+a[at:]))
			}
		}
		slices.Sort(next)
		last = slices.Compact(next)
		all = append(all, last...)
	}
	slices.Sort(all)
	return all
}

func shortForms(most int) []api.Ordinal {
	var l []api.Ordinal
	for _, a := range longForms(most) {
		l = append(l, shortOf(a))
	}
	return l
}

// someTree is a hydra's text by chance; its nodes are one more than size.
func someTree(chance *rand.Rand, size int) string {
	a := ""
	for range size {
		at := chance.Intn(len(a) + 1)
		a = a[:at] + "10" + a[at:]
	}
	return a
}

func someOrdinal(chance *rand.Rand, size int) api.Ordinal {
	return shortOf(inOrder(someTree(chance, chance.Intn(size+1))))
}

// hydra is the one whose Kids' texts these are.
func hydra(text string) (h api.Hydra) {
	for _, k := range exponents(text) {
		h.Kids = append(h.Kids, hydra(k))
	}
	return h
}

func hydraText(h api.Hydra) string {
	var b strings.Builder
	for _, k := range h.Kids {
		b.WriteString("1" + hydraText(k) + "0")
	}
	return b.String()
}

// chopAgain cuts the head out of a hydra's text, and writes what grows behind the Kids of the node above its parent.
func chopAgain(h string, way []int, n int) string {
	begins, ends := []int{}, []int{}
	begin, end := 0, len(h)
	for _, number := range way {
		begins, ends = append(begins, begin), append(ends, end)
		for _, k := range exponents(h[begin:end])[:number] {
			begin += len(k) + 2
		}
		begin++
		end = begin + len(exponents(h[begin-1 : end])[0])
	}
	if begin != end {
		panic(h + ": no head")
	}
	grown := ""
	if last := len(way) - 1; last > 0 {
		grown = "1" + h[begins[last]:begin-1] + h[end+1:ends[last]] + "0"
		h = h[:ends[last-1]] + strings.Repeat(grown, n) + h[ends[last-1]:]
	}
	return h[:begin-1] + h[end+1:]
}

// ways are all that lead to heads.
func ways(h api.Hydra) (l [][]int) {
	for i, k := range h.Kids {
		if len(k.Kids) == 0 {
			l = append(l, []int{i})
		}
		for _, w := range ways(k) {
			l = append(l, append([]int{i}, w...))
		}
	}
	return l
}

func text(t *testing.T, a api.Ordinal) string {
	t.Helper()
	s, f := ordinal.Text(a)
	sameFault(t, "Text", f, api.Fault{})
	return s
}

// said writes down what a call answers.
func said(a api.Ordinal, f api.Fault) string {
	if f != (api.Fault{}) && a.Parts != nil {
		return "an answer beside a fault"
	}
	if f != (api.Fault{}) {
		return "fault " + strconv.Itoa(f.Code) + " " + strconv.Itoa(f.At)
	}
	s, f := ordinal.Text(a)
	if f != (api.Fault{}) {
		return "not in its form"
	}
	return s
}

func TestHelpers(t *testing.T) {
	for i, a := range longForms(6) {
		s := shortOf(a)
		if longOf(s) != a || inOrder(a) != a {
			t.Errorf("%s: %v", a, s)
		}
		for j, b := range longForms(6) {
			if compareAgain(s, shortOf(b)) != strings.Compare(a, b) || (i < j) != (a < b) {
				t.Errorf("%s and %s are ordered in two ways", a, b)
			}
		}
	}
	var counts []int
	for n := range 8 {
		counts = append(counts, len(longForms(n)))
	}
	// So many trees have a given number of nodes: 1, 1, 2, 4, 9, 20, 48, 115.
	if !slices.Equal(counts, []int{1, 2, 4, 8, 17, 37, 85, 200}) {
		t.Errorf("%v", counts)
	}
	if got := read("w^(w^(2)+w*3)*2+w+3"); longOf(got) != strings.Repeat("1"+"110100"+strings.Repeat("1100", 3)+"0", 2)+"1100"+"101010" {
		t.Errorf("%v", got)
	}
	h := hydra("1101010010110100")
	if hydraText(h) != "1101010010110100" || !reflect.DeepEqual(ways(h), [][]int{{0, 0}, {0, 1}, {0, 2}, {1}, {2, 0}, {2, 1}}) {
		t.Errorf("%v: %v", h, ways(h))
	}
	for _, c := range []struct {
		h    string
		way  []int
		n    int
		want string
	}{
		{"10", []int{0}, 5, ""},
		{"1011001010", []int{2}, 5, "10110010"},
		{"1011001010", []int{1, 0}, 2, "101010101010"},
		{"10110100", []int{1, 1}, 1, "1011001100"},
		{"111010010010", []int{0, 0, 1}, 2, "111001011001100010"},
	} {
		if got := chopAgain(c.h, c.way, c.n); got != c.want {
			t.Errorf("chopAgain(%s, %v, %d): %s, want %s", c.h, c.way, c.n, got, c.want)
		}
	}
}
