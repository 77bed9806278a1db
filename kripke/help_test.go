package kripke_test

import (
	"reflect"
	"slices"
	"strings"
	"testing"

	"sequent/api"
	"sequent/calculus"
	"sequent/formula"
	"sequent/kripke"
)

func fault(code, at int) api.Fault { return api.Fault{Code: code, At: at} }

func name(s string) api.Formula { return api.Formula{Kind: api.FVar, Name: s} }

func node(kind int, kids ...api.Formula) api.Formula {
	return api.Formula{Kind: kind, Kids: kids}
}

// nots is f below so many FNot.
func nots(n int, f api.Formula) api.Formula {
	for range n {
		f = node(api.FNot, f)
	}
	return f
}

func read(t *testing.T, text string) api.Formula {
	t.Helper()
	f, e := formula.Parse(text)
	if e != (api.Fault{}) {
		t.Fatalf("Parse(%q): %v", text, e)
	}
	return f
}

// sequent reads one such as p, q => r.
func sequent(t *testing.T, text string) api.Sequent {
	t.Helper()
	side := func(text string) (l []api.Formula) {
		for one := range strings.SplitSeq(text, ",") {
			if strings.TrimSpace(one) != "" {
				l = append(l, read(t, one))
			}
		}
		return l
	}
	left, right, found := strings.Cut(text, "=>")
	if !found {
		t.Fatalf("%q is no sequent", text)
	}
	return api.Sequent{Left: side(left), Right: side(right)}
}

// text is how Print writes f.
func text(f api.Formula) string {
	s, _ := formula.Print(f)
	return s
}

// texts are the formulas of a side as Print writes them, rising.
func texts(l []api.Formula) []string {
	out := []string{}
	for _, f := range l {
		out = append(out, text(f))
	}
	slices.Sort(out)
	return out
}

func told(s api.Sequent) string {
	return strings.Join(texts(s.Left), ", ") + " => " + strings.Join(texts(s.Right), ", ")
}

// partsOf are the formulas at the nodes of s, each once, those in one ahead of it.
func partsOf(s api.Sequent) []api.Formula {
	var all []api.Formula
	known := map[string]bool{}
	var add func(f api.Formula)
	add = func(f api.Formula) {
		for _, k := range f.Kids {
			add(k)
		}
		if !known[text(f)] {
			known[text(f)] = true
			all = append(all, f)
		}
	}
	for _, f := range slices.Concat(s.Left, s.Right) {
		add(f)
	}
	return all
}

// sees is the second reckoning of what a world sees.
func sees(m api.Model, from, to int) bool { return slices.Contains(m.Rel, [2]int{from, to}) }

// seen are the worlds that a world sees.
func seen(m api.Model, from int) []int {
	var l []int
	for to := range m.N {
		if sees(m, from, to) {
			l = append(l, to)
		}
	}
	return l
}

// ungrown is the first world at which m does not grow, or -1.
func ungrown(m api.Model) int {
	for w := range m.N {
		if !sees(m, w, w) {
			return w
		}
		for _, v := range seen(m, w) {
			for _, u := range seen(m, v) {
				if !sees(m, w, u) {
					return w
				}
			}
			for _, name := range m.True[w] {
				if !slices.Contains(m.True[v], name) {
					return w
				}
			}
		}
	}
	return -1
}

// forces is the second reckoning, world by world, as the chapter says it. The worlds that are seen are handed over, as they are asked for often.
func forces(m api.Model, see [][]int, w int, f api.Formula) bool {
	is := func(v, kid int) bool { return forces(m, see, v, f.Kids[kid]) }
	switch f.Kind {
	case api.FVar:
		return slices.Contains(m.True[w], f.Name)
	case api.FTrue:
		return true
	case api.FAnd:
		return is(w, 0) && is(w, 1)
	case api.FOr:
		return is(w, 0) || is(w, 1)
	case api.FThen:
		return !slices.ContainsFunc(see[w], func(v int) bool { return is(v, 0) && !is(v, 1) })
	case api.FNot:
		return !slices.ContainsFunc(see[w], func(v int) bool { return is(v, 0) })
	}
	return false
}

func seenOf(m api.Model) [][]int {
	var see [][]int
	for w := range m.N {
		see = append(see, seen(m, w))
	}
	return see
}

// speaksAgainst: does the world force all of Left, and nothing of Right?
func speaksAgainst(m api.Model, see [][]int, w int, s api.Sequent) bool {
	isForced := func(f api.Formula) bool { return forces(m, see, w, f) }
	isNot := func(f api.Formula) bool { return !forces(m, see, w, f) }
	return !slices.ContainsFunc(s.Left, isNot) && !slices.ContainsFunc(s.Right, isForced)
}

// isValid is the second reckoning: of all sets of parts that a world might force those go, again and again, that lack a world which they would have to see. What stays is the greatest model that there is, with at most 2 to the power of the parts as worlds: each world of a model forces one of its sets.
func isValid(s api.Sequent) bool {
	all := partsOf(s)
	at := map[string]int{}
	for i, f := range all {
		at[text(f)] = i
	}
	var sets []int
	for set := range 1 << len(all) {
		if isLocal(all, at, set) {
			sets = append(sets, set)
		}
	}
	for was := -1; was != len(sets); {
		was = len(sets)
		whole := slices.Clone(sets)
		sets = slices.DeleteFunc(sets, func(set int) bool { return lacksWorld(all, at, set, whole) })
	}
	has := func(set int, f api.Formula) bool { return set>>at[text(f)]&1 == 1 }
	return !slices.ContainsFunc(sets, func(set int) bool {
		isOut := func(f api.Formula) bool { return !has(set, f) }
		isIn := func(f api.Formula) bool { return has(set, f) }
		return !slices.ContainsFunc(s.Left, isOut) && !slices.ContainsFunc(s.Right, isIn)
	})
}

// isLocal: might a world force just this set, as far as that is seen from it alone?
func isLocal(all []api.Formula, at map[string]int, set int) bool {
	for i, f := range all {
		is := set>>i&1 == 1
		kid := func(k int) bool { return set>>at[text(f.Kids[k])]&1 == 1 }
		switch {
		case f.Kind == api.FTrue && !is, f.Kind == api.FFalse && is:
			return false
		case f.Kind == api.FAnd && is != (kid(0) && kid(1)), f.Kind == api.FOr && is != (kid(0) || kid(1)):
			return false
		case f.Kind == api.FThen && is && kid(0) && !kid(1), f.Kind == api.FThen && !is && kid(1):
			return false
		case f.Kind == api.FNot && is && kid(0):
			return false
		}
	}
	return true
}

func lacksWorld(all []api.Formula, at map[string]int, set int, sets []int) bool {
	for i, f := range all {
		if set>>i&1 == 1 || f.Kind != api.FThen && f.Kind != api.FNot {
			continue
		}
		isSuch := func(other int) bool {
			has := func(k int) bool { return other>>at[text(f.Kids[k])]&1 == 1 }
			return other&set == set && has(0) && (f.Kind == api.FNot || !has(1))
		}
		if !slices.ContainsFunc(sets, isSuch) {
			return true
		}
	}
	return false
}

// proved asks Prove, and looks at all that it answers, but whether valid is right.
func proved(t *testing.T, s api.Sequent) (p api.Proof, counter api.Model, valid bool) {
	t.Helper()
	p, counter, valid, f := kripke.Prove(s)
	switch {
	case f != api.Fault{}:
		t.Fatalf("%s: fault %v", told(s), f)
	case valid:
		isProofOf(t, p, s)
		if !reflect.DeepEqual(counter, api.Model{}) {
			t.Fatalf("%s: it is valid, and has a model against it", told(s))
		}
	default:
		isCounter(t, counter, s)
		if !reflect.DeepEqual(p, api.Proof{}) {
			t.Fatalf("%s: it is not valid, and has a proof", told(s))
		}
	}
	return p, counter, valid
}

func isProofOf(t *testing.T, p api.Proof, s api.Sequent) {
	t.Helper()
	if cuts, e := calculus.Cuts(p, true); e != (api.Fault{}) || cuts != 0 {
		t.Fatalf("%s: of the proof is said %v, it has %d cuts", told(s), e, cuts)
	}
	if !slices.Equal(texts(p.End.Left), texts(s.Left)) || !slices.Equal(texts(p.End.Right), texts(s.Right)) {
		t.Fatalf("%s: the proof is of %s", told(s), told(p.End))
	}
}

func isCounter(t *testing.T, m api.Model, s api.Sequent) {
	t.Helper()
	if m.N < 1 || m.N > 1<<api.MaxSubs || len(m.True) != m.N {
		t.Fatalf("%s: a model with %d worlds, and %d lists of names", told(s), m.N, len(m.True))
	}
	for _, pair := range m.Rel {
		if min(pair[0], pair[1]) < 0 || max(pair[0], pair[1]) >= m.N {
			t.Fatalf("%s: the pair %v", told(s), pair)
		}
	}
	for w, names := range m.True {
		isNone := func(s string) bool { return formula.Check(name(s)) != (api.Fault{}) }
		if len(names) > 30 || slices.ContainsFunc(names, isNone) {
			t.Fatalf("%s: world %d has %q", told(s), w, names)
		}
	}
	if m.N <= api.MaxWorld && kripke.Check(m) != (api.Fault{}) {
		t.Fatalf("%s: of the model is said %v", told(s), kripke.Check(m))
	}
	if at := ungrown(m); at >= 0 {
		t.Fatalf("%s: the model does not grow at %d", told(s), at)
	}
	if !speaksAgainst(m, seenOf(m), 0, s) {
		t.Fatalf("%s: world 0 of %v does not speak against it", told(s), m)
	}
}

// decided holds the answer against the second reckoning.
func decided(t *testing.T, s api.Sequent) (valid bool) {
	t.Helper()
	_, _, valid = proved(t, s)
	if want := isValid(s); valid != want {
		t.Fatalf("%s: valid: %v, want %v", told(s), valid, want)
	}
	return valid
}
