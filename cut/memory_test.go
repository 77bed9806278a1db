package cut_test

import (
	"math/rand"
	"reflect"
	"slices"
	"testing"
	"unsafe"

	"sequent/api"
	"sequent/cut"
)

// roomy lists go on behind their lengths with what must not stand there.
func roomy[T any](l []T, bad T) []T {
	return append(slices.Clone(l), bad, bad, bad)[:len(l)]
}

func roomyFormulas(l []api.Formula) []api.Formula {
	var out []api.Formula
	for _, f := range l {
		f.Kids = roomyFormulas(f.Kids)
		out = append(out, f)
	}
	return roomy(out, api.Formula{Kind: -7, Name: "BEHIND"})
}

func roomyProof(p api.Proof) api.Proof {
	p.F = roomyFormulas([]api.Formula{p.F})[0]
	p.End = api.Sequent{Left: roomyFormulas(p.End.Left), Right: roomyFormulas(p.End.Right)}
	var kids []api.Proof
	for _, k := range p.Kids {
		kids = append(kids, roomyProof(k))
	}
	p.Kids = roomy(kids, api.Proof{Rule: "behind"})
	return p
}

// everything copies formulas with what lies behind their lengths.
func everything(l []api.Formula) []api.Formula {
	var out []api.Formula
	for _, f := range l[:cap(l)] {
		f.Kids = everything(f.Kids)
		out = append(out, f)
	}
	return out
}

func everythingIn(p api.Proof) api.Proof {
	out := api.Proof{Rule: p.Rule, F: everything([]api.Formula{p.F})[0]}
	out.End = api.Sequent{Left: everything(p.End.Left), Right: everything(p.End.Right)}
	for _, k := range p.Kids[:cap(p.Kids)] {
		out.Kids = append(out.Kids, everythingIn(k))
	}
	return out
}

// someProofs of a calculus have cuts, or none.
func someProofs(t *testing.T, intuit bool) []api.Proof {
	t.Helper()
	long, _ := longOf(t, intuit)
	all := []api.Proof{long, bush(1, 1, 40, intuit), chain(t, 20)}
	eachSample(t, intuit, func(step api.Proof, premises []api.Sequent) {
		for _, s := range premises {
			kid, _ := found(s, intuit)
			step.Kids = append(step.Kids, kid)
		}
		all = append(all, step)
	})
	chance := rand.New(rand.NewSource(5))
	for range 400 {
		if p, valid := found(anySequent(chance, 1+chance.Intn(10), 2, intuit), intuit); valid {
			all = append(all, withCuts(chance, p, 2, intuit))
		}
	}
	return all
}

// TestListsAreOnlyRead: neither what is handed in nor what lies behind it is changed, and nothing behind it is read.
func TestListsAreOnlyRead(t *testing.T) {
	for calculus, intuit := range calculi() {
		for _, whole := range someProofs(t, intuit) {
			steps, deep, rank, _ := cut.Measure(whole, intuit)
			p := roomyProof(whole)
			was := everythingIn(p)
			measured(t, calculus, p, intuit, steps, deep, rank)
			eliminated(t, p, intuit)
			if !reflect.DeepEqual(everythingIn(p), was) {
				t.Errorf("%s: the proof of %s is changed", calculus, told(p.End))
			}
		}
	}
}

// places has where each element of a list lies, those behind its length, too.
type places struct {
	seen   map[any]int
	shared int
}

// newPlaces tells whether the list's elements lie where no others did.
func newPlaces[T any](p *places, l []T) bool {
	all := l[:cap(l)]
	for i := range all {
		p.seen[&all[i]]++
		if p.seen[&all[i]] > 1 {
			p.shared++
			return false
		}
	}
	return true
}

func (p *places) list(l []api.Formula) {
	if newPlaces(p, l) {
		for _, f := range l {
			p.list(f.Kids)
		}
	}
}

func (p *places) proof(one api.Proof) {
	p.list(one.F.Kids)
	p.list(one.End.Left)
	p.list(one.End.Right)
	if newPlaces(p, one.Kids) {
		for _, k := range one.Kids {
			p.proof(k)
		}
	}
}

// TestAnswersAreNewMemory: no two lists of an answer share any, nor one of them and one that was handed in.
func TestAnswersAreNewMemory(t *testing.T) {
	for calculus, intuit := range calculi() {
		for _, whole := range someProofs(t, intuit) {
			p := places{seen: map[any]int{}}
			p.proof(whole)
			p.shared = 0 // what is handed in may share memory
			for range 2 {
				q, _ := eliminated(t, whole, intuit)
				p.proof(q)
			}
			if p.shared > 0 {
				t.Fatalf("%s: %s: memory is shared", calculus, told(whole.End))
			}
		}
	}
}

// TestSharedListsComeApart: one list stands at many places of what is handed in.
func TestSharedListsComeApart(t *testing.T) {
	f := read(t, "~p & ~p")
	f.Kids[1].Kids = f.Kids[0].Kids
	l := []api.Formula{f, f}
	ax := axiom(f, api.Sequent{Left: l, Right: l[:1]})
	kids := []api.Proof{ax, ax}
	and := node(api.FAnd, f, f)
	p := api.Proof{Rule: "and-r", F: and, End: api.Sequent{Left: l, Right: []api.Formula{and}}, Kids: kids}
	for calculus, intuit := range calculi() {
		q, much := eliminated(t, p, intuit)
		seen := places{seen: map[any]int{}}
		seen.proof(q)
		if much || seen.shared > 0 {
			t.Errorf("%s: %d lists are shared", calculus, seen.shared)
		}
	}
}

// TestTextsAreNotKept: neither names nor rules.
func TestTextsAreNotKept(t *testing.T) {
	word, rule := string([]byte("letters")), string([]byte("ax"))
	l := []api.Formula{name(word)}
	ax := api.Proof{Rule: rule, F: l[0], End: api.Sequent{Left: l, Right: l}}
	for calculus, intuit := range calculi() {
		first, second := cutPremises(l[0], ax.End, intuit)
		p := api.Proof{Rule: "cut", F: l[0], End: ax.End, Kids: []api.Proof{axiom(l[0], first), axiom(l[0], second)}}
		for _, one := range []api.Proof{ax, p} {
			q, _ := eliminated(t, one, intuit)
			for _, s := range []string{q.F.Name, q.End.Left[0].Name, q.End.Right[0].Name} {
				if s != word || unsafe.StringData(s) == unsafe.StringData(word) {
					t.Errorf("%s: the name %q is kept", calculus, s)
				}
			}
			if q.Rule != rule || unsafe.StringData(q.Rule) == unsafe.StringData(rule) {
				t.Errorf("%s: the rule %q is kept", calculus, q.Rule)
			}
		}
	}
}

// TestListsMayBeNil: nil and empty are the same.
func TestListsMayBeNil(t *testing.T) {
	for _, l := range [][]api.Formula{nil, {}, letters(2)[:0]} {
		yes := api.Formula{Kind: api.FTrue, Kids: l}
		end := api.Sequent{Left: l, Right: []api.Formula{{Kind: api.FTrue}}}
		for calculus, intuit := range calculi() {
			first, second := cutPremises(yes, end, intuit)
			by := func(s api.Sequent) api.Proof {
				return api.Proof{Rule: "true", F: yes, End: s, Kids: []api.Proof{}}
			}
			p := api.Proof{Rule: "cut", F: yes, End: end, Kids: []api.Proof{by(first), by(second)}}
			measured(t, calculus, p, intuit, 3, 2, 1)
			eliminated(t, p, intuit)
			weak := api.Proof{Rule: "weak", F: api.Formula{Kids: l}, End: second, Kids: []api.Proof{by(end)}}
			measured(t, calculus, weak, intuit, 2, 2, 0)
			eliminated(t, weak, intuit)
		}
	}
}

func TestAnswersHangOnArgumentsAlone(t *testing.T) {
	for calculus, intuit := range calculi() {
		all := someProofs(t, intuit)
		var first []api.Proof
		for _, p := range all {
			q, _ := cut.Eliminate(p, intuit)
			first = append(first, q)
		}
		for at, p := range slices.Backward(all) {
			steps, deep, rank, _ := cut.Measure(p, intuit)
			if q, _ := cut.Eliminate(p, intuit); !reflect.DeepEqual(q, first[at]) {
				t.Errorf("%s: %s: another answer", calculus, told(p.End))
			}
			measured(t, calculus, p, intuit, steps, deep, rank)
			measured(t, calculus, p, intuit, len(stepsOf(p)), deepOf(p), rankOf(p))
		}
	}
}

// rankOf is the second reckoning.
func rankOf(p api.Proof) int {
	rank := 0
	for _, s := range stepsOf(p) {
		if s.Rule == "cut" {
			rank = max(rank, len(nodesOf([]api.Formula{s.F})))
		}
	}
	return rank
}
