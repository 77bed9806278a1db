package ordinal_test

import (
	"math/rand"
	"testing"

	"sequent/api"
	"sequent/ordinal"
)

// largest are ordinals with 200 parts, or nearly as many, of different shapes.
func largest() []api.Ordinal {
	exps, all := []api.Ordinal{}, shortForms(8)
	for _, a := range all[len(all)-40:] {
		exps = append(exps, power(a, 1000000000))
	}
	var wide []api.Ordinal
	for left, i := api.MaxNodes, len(exps)-1; i >= 0 && parts(exps[i]) <= left; i-- {
		wide = append(wide, exps[i])
		left -= parts(exps[i])
	}
	return []api.Ordinal{
		numbered(100, 1, 1000000000),
		power(numbered(99, 1, 1000000000), 1000000000),
		deepened(row(numbered(75, 1, 1)), 48),
		row(tower(50), tower(49), tower(48), numbered(27, 2, 1), number(1)),
		row(deepened(read("w+2"), 46), deepened(read("w+1"), 46), deepened(read("w"), 46), deepened(number(9), 46)),
		row(wide...),
	}
}

// TestLargest: whatever they are asked for, every call ends in good time, and what is answered is in its form.
func TestLargest(t *testing.T) {
	for _, a := range largest() {
		sameFault(t, "Check", ordinal.Check(a), api.Fault{})
		if n := parts(a); n < 185 {
			t.Errorf("%d parts", n)
		}
		if s := text(t, a); !isSame(read(s), a) {
			t.Errorf("%s", s)
		}
		for _, b := range largest() {
			compared(t, a, b, compareAgain(a, b))
			for _, ask := range []func(a, b api.Ordinal) (api.Ordinal, api.Fault){ordinal.Add, ordinal.Mul} {
				if got := said(ask(a, b)); got == "not in its form" || got[0] == 'f' && got != tooMuch {
					t.Errorf("%s and %s: %s", text(t, a), text(t, b), got)
				}
			}
		}
		for _, n := range []int{0, 1, 1000000} {
			if got := said(ordinal.Below(a, n)); got == "not in its form" || got[0] == 'f' && got != tooMuch {
				t.Errorf("Below(%s, %d): %s", text(t, a), n, got)
			}
		}
	}
}

// TestLargestHydras: as many nodes as there may be, in different shapes.
func TestLargestHydras(t *testing.T) {
	chance := rand.New(rand.NewSource(11))
	twins := func(size int) api.Hydra {
		var l []api.Hydra
		for range 999 / size {
			l = append(l, hydra(someTree(rand.New(rand.NewSource(1)), size-1)))
		}
		return over(l...)
	}
	l := []api.Hydra{brush(999), over(brush(998)), over(line(59), brush(939)), twins(30), twins(33), twins(100), twins(333)}
	for range 16 {
		l = append(l, over(line(59), hydra(someTree(chance, 939))))
	}
	for _, h := range l {
		if hydraDeep(h) > 60 {
			continue
		}
		before := inOrder(hydraText(h))
		if got := measured(t, h); !isSame(got, shortOf(before)) {
			t.Errorf("%d nodes: %v", nodes(h), got)
		}
		heads := ways(h)
		for _, way := range [][]int{heads[0], heads[len(heads)/2], heads[len(heads)-1]} {
			got := hydraText(chop(t, h, way, 0))
			if got != chopAgain(hydraText(h), way, 0) || inOrder(got) >= before {
				t.Errorf("Chop: %s: %s", toldWay(way), got)
			}
		}
	}
}

// TestWideNodes: a list of parts, or of Kids, is longer than anything that is looked at.
func TestWideNodes(t *testing.T) {
	a := api.Ordinal{Parts: make([]api.Part, 1<<20)}
	for i := range a.Parts {
		a.Parts[i].Many = 1
	}
	refused(t, "wide", a, fault(api.ErrForm, 1))
	twice := row(tower(1), tower(1))
	twice.Parts[0].Exp, twice.Parts[1].Exp = twice, twice
	refused(t, "it holds itself twice", twice, fault(api.ErrMany, 0))
	for range 20 {
		a = row(a, a)
		if len(a.Parts) > 1<<21 {
			break
		}
	}
	refused(t, "wider", power(a, 1), fault(api.ErrForm, 2))
}
