package net_test

import (
	"math/rand"
	"reflect"
	"slices"
	"strings"
	"testing"

	"sequent/api"
	"sequent/net"
)

func fault(code, at int) api.Fault { return api.Fault{Code: code, At: at} }

func atom(name string) api.Linear { return api.Linear{Kind: api.LAtom, Name: name} }

func opposite(name string) api.Linear { return api.Linear{Kind: api.LAtom, Name: name, Not: true} }

func node(kind int, kids ...api.Linear) api.Linear { return api.Linear{Kind: kind, Kids: kids} }

func tensor(f, g api.Linear) api.Linear { return node(api.LTensor, f, g) }

func par(f, g api.Linear) api.Linear { return node(api.LPar, f, g) }

// read takes the first formula off a text: p is a name, P its opposite, * and + are LTensor and LPar ahead of both Kids.
func read(text string) (f api.Linear, rest string) {
	first, rest := text[:1], text[1:]
	switch {
	case first == "*" || first == "+":
		a, rest := read(rest)
		b, rest := read(rest)
		return map[string]func(f, g api.Linear) api.Linear{"*": tensor, "+": par}[first](a, b), rest
	case first == strings.ToLower(first):
		return atom(first), rest
	}
	return opposite(strings.ToLower(first)), rest
}

// list reads formulas with blanks between them.
func list(text string) []api.Linear {
	var l []api.Linear
	for _, word := range strings.Fields(text) {
		f, rest := read(word)
		if rest != "" {
			panic(word + " is no formula")
		}
		l = append(l, f)
	}
	return l
}

// told writes a formula with all its names, so that no two are told alike.
func told(f api.Linear) string {
	switch {
	case f.Kind == api.LAtom && f.Not:
		return "~" + f.Name
	case f.Kind == api.LAtom:
		return f.Name
	case len(f.Kids) != 2:
		return "?"
	}
	sign := map[int]string{api.LTensor: " * ", api.LPar: " + "}[f.Kind]
	return "(" + told(f.Kids[0]) + sign + told(f.Kids[1]) + ")"
}

func toldAll(l []api.Linear) []string {
	var texts []string
	for _, f := range l {
		texts = append(texts, told(f))
	}
	return texts
}

// dual is the second reckoning of it.
func dual(f api.Linear) api.Linear {
	switch f.Kind {
	case api.LTensor:
		return par(dual(f.Kids[0]), dual(f.Kids[1]))
	case api.LPar:
		return tensor(dual(f.Kids[0]), dual(f.Kids[1]))
	}
	return api.Linear{Kind: f.Kind, Name: f.Name, Not: !f.Not}
}

func nodesOf(l ...api.Linear) []api.Linear {
	var all []api.Linear
	for _, f := range l {
		all = append(all, f)
		all = append(all, nodesOf(f.Kids...)...)
	}
	return all
}

func leavesOf(l ...api.Linear) []api.Linear {
	return slices.DeleteFunc(nodesOf(l...), func(f api.Linear) bool { return f.Kind != api.LAtom })
}

func isPair(f, g api.Linear) bool { return f.Name == g.Name && f.Not != g.Not }

// straight links the first leaf of f to the first one of its dual, and so on.
func straight(f api.Linear) [][2]int {
	n := len(leavesOf(f))
	var links [][2]int
	for i := range n {
		links = append(links, [2]int{i, n + i})
	}
	return links
}

// ordered has each link with its lesser leaf first, by these.
func ordered(links [][2]int) [][2]int {
	var l [][2]int
	for _, link := range links {
		l = append(l, [2]int{min(link[0], link[1]), max(link[0], link[1])})
	}
	slices.SortFunc(l, func(a, b [2]int) int { return a[0] - b[0] })
	return l
}

// mixed is the same links in another order, some of them turned round.
func mixed(chance *rand.Rand, links [][2]int) [][2]int {
	l := slices.Clone(links)
	chance.Shuffle(len(l), func(i, j int) { l[i], l[j] = l[j], l[i] })
	for i := range l {
		if chance.Intn(2) == 0 {
			l[i][0], l[i][1] = l[i][1], l[i][0]
		}
	}
	return l
}

// smallFormulas are all with so many leaves, each p or its opposite.
func smallFormulas(leaves int) []api.Linear {
	if leaves == 1 {
		return []api.Linear{atom("p"), opposite("p")}
	}
	var all []api.Linear
	for first := 1; first < leaves; first++ {
		for _, f := range smallFormulas(first) {
			for _, g := range smallFormulas(leaves - first) {
				all = append(all, tensor(f, g), par(f, g))
			}
		}
	}
	return all
}

// smallLists are all lists of them with so many leaves together.
func smallLists(leaves int) [][]api.Linear {
	if leaves == 0 {
		return [][]api.Linear{nil}
	}
	var all [][]api.Linear
	for first := 1; first <= leaves; first++ {
		for _, rest := range smallLists(leaves - first) {
			for _, f := range smallFormulas(first) {
				all = append(all, slices.Concat([]api.Linear{f}, rest))
			}
		}
	}
	return all
}

// allLinks goes through all ways to link the leaves.
func allLinks(l []api.Linear) [][][2]int {
	return waysToLink(leavesOf(l...), make([]bool, len(leavesOf(l...))))
}

func waysToLink(leaves []api.Linear, isLinked []bool) [][][2]int {
	first := slices.Index(isLinked, false)
	if first < 0 {
		return [][][2]int{nil}
	}
	var all [][][2]int
	for other := first + 1; other < len(leaves); other++ {
		if isLinked[other] || !isPair(leaves[first], leaves[other]) {
			continue
		}
		more := slices.Clone(isLinked)
		more[first], more[other] = true, true
		for _, rest := range waysToLink(leaves, more) {
			all = append(all, append([][2]int{{first, other}}, rest...))
		}
	}
	return all
}

// someFormula has so many leaves.
func someFormula(chance *rand.Rand, leaves int, names ...string) api.Linear {
	if leaves == 1 {
		return api.Linear{Kind: api.LAtom, Name: names[chance.Intn(len(names))], Not: chance.Intn(2) == 0}
	}
	first := 1 + chance.Intn(leaves-1)
	return node(api.LTensor+chance.Intn(2), someFormula(chance, first, names...), someFormula(chance, leaves-first, names...))
}

// someList has so many leaves in all.
func someList(chance *rand.Rand, leaves int, names ...string) []api.Linear {
	var l []api.Linear
	for leaves > 0 {
		n := 1 + chance.Intn(leaves)
		l = append(l, someFormula(chance, n, names...))
		leaves -= n
	}
	return l
}

// correct looks at what Correct says, and that the same is said of the links in another order.
func correct(t *testing.T, l []api.Linear, links [][2]int, want bool) {
	t.Helper()
	turned := slices.Clone(links)
	slices.Reverse(turned)
	for i, link := range turned {
		turned[i] = [2]int{link[1], link[0]}
	}
	for _, links := range [][][2]int{links, turned} {
		if is, e := net.Correct(l, links); is != want || e != (api.Fault{}) {
			t.Fatalf("%v with %v: %v, %v, want %v", toldAll(l), links, is, e, want)
		}
	}
}

// sequential looks at the proof that Sequential answers, or that there is none just where want is false.
func sequential(t *testing.T, l []api.Linear, links [][2]int, want bool) {
	t.Helper()
	tree, e := net.Sequential(l, links)
	if !want {
		if e != fault(api.ErrFalse, 0) || !reflect.DeepEqual(tree, api.Tree{}) {
			t.Fatalf("%v with %v: %v, %v", toldAll(l), links, tree, e)
		}
		return
	}
	if e != (api.Fault{}) {
		t.Fatalf("%v with %v: %v", toldAll(l), links, e)
	}
	if why := wrongIn(tree); why != "" {
		t.Fatalf("%v with %v: %s", toldAll(l), links, why)
	}
	if !isSameBag(tree.End, l) {
		t.Fatalf("%v with %v: the proof ends with %v", toldAll(l), links, toldAll(tree.End))
	}
}

// isSameBag: has each formula in l as often as in m?
func isSameBag(l, m []api.Linear) bool {
	return slices.Equal(slices.Sorted(slices.Values(toldAll(l))), slices.Sorted(slices.Values(toldAll(m))))
}

// wrongIn tells the first step of a proof that is not as point 4 says. A step may end with more formulas than a list may have that is handed in.
func wrongIn(t api.Tree) string {
	for _, f := range t.End {
		if e := net.Check([]api.Linear{f}); e != (api.Fault{}) {
			return "no formula at a step by " + t.Rule
		}
	}
	if !map[string]func(api.Tree) bool{"ax": isAx, "par": isParStep, "tensor": isTensorStep}[t.Rule](t) {
		return "no step by " + t.Rule + " to " + strings.Join(toldAll(t.End), ", ")
	}
	for _, k := range t.Kids {
		if why := wrongIn(k); why != "" {
			return why
		}
	}
	return ""
}

func isAx(t api.Tree) bool {
	return len(t.Kids) == 0 && len(t.End) == 2 && t.End[0].Kind == api.LAtom && t.End[1].Kind == api.LAtom && isPair(t.End[0], t.End[1])
}

func isParStep(t api.Tree) bool {
	for at, f := range t.End {
		others := slices.Concat(t.End[:at], t.End[at+1:])
		if len(t.Kids) == 1 && f.Kind == api.LPar && isSameBag(t.Kids[0].End, slices.Concat(others, f.Kids)) {
			return true
		}
	}
	return false
}

func isTensorStep(t api.Tree) bool {
	for at, f := range t.End {
		if len(t.Kids) != 2 || f.Kind != api.LTensor {
			continue
		}
		others := slices.Concat(t.End[:at], t.End[at+1:])
		first, hasFirst := takenOff(t.Kids[0].End, f.Kids[0])
		second, hasSecond := takenOff(t.Kids[1].End, f.Kids[1])
		if hasFirst && hasSecond && isSameBag(slices.Concat(first, second), others) {
			return true
		}
	}
	return false
}

// takenOff is l without one f, if it is there.
func takenOff(l []api.Linear, f api.Linear) (rest []api.Linear, has bool) {
	at := slices.IndexFunc(l, func(g api.Linear) bool { return told(f) == told(g) })
	if at < 0 {
		return nil, false
	}
	return slices.Concat(l[:at], l[at+1:]), true
}
