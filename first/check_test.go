package first_test

import (
	"math/rand"
	"testing"

	"sequent/api"
	"sequent/first"
)

func TestCheckSaysNothingOfExpressions(t *testing.T) {
	x := word("x")
	for _, e := range []api.Expr{
		node(api.ETrue), node(api.EFalse),
		pred("P"), pred("A"), pred("Z"), pred("PQ"), pred("Abcdefgh"), pred("ABCDEFGH"), pred("AzZaAzZa"),
		pred("P", x), pred("P", x, x, x, x, x, x, x, x, x),
		pred("P", words("a", "z", "abcdefgh", "A", "Z", "Abcdefgh", "ABCDEFGH")...),
		same(x, x), same(word("C"), word("F", x, word("F", word("C"), x))),
		not(pred("P")), and(pred("P"), pred("P")), or(pred("P"), pred("Q")), then(pred("P"), pred("Q")),
		all("a", pred("P")), all("z", pred("P", x)), some("abcdefgh", pred("P")), all("x", some("x", pred("P", x))),
		{Kind: api.ETrue, Words: []api.Word{}, Kids: []api.Expr{}},
		{Kind: api.ETrue, Words: []api.Word{{}}[:0], Kids: []api.Expr{{}, {}}[:0]},
		pred("P", api.Word{Name: "x", Args: []api.Word{}}), pred("P", api.Word{Name: "x", Args: []api.Word{{}}[:0]}),
		and(pred("P", api.Word{Name: "C", Args: []api.Word{}}), pred("P", word("C"))),
		// A big name may have a number of places as a predicate, and another one as a word's.
		pred("P", word("P"), word("P")), pred("P", word("P", x, x)), and(same(word("P", x), x), pred("P")), and(pred("P"), same(word("P", x), x)),
		// A name may be a variable's in one place and bound in another, or both.
		and(all("x", pred("P", x)), pred("P", x)),
		nots(api.MaxNodes-1, pred("Q")), pred("P", many(api.MaxNodes-1, "x")...),
		pred("P", nested(api.MaxNodes-2, x)), same(nested(98, x), nested(99, x)),
		and(nots(99, pred("Q")), nots(97, pred("P", x))),
	} {
		sameFault(t, short(told(e)), first.Check(e), api.Fault{})
	}
}

func TestCheckFaults(t *testing.T) {
	for _, c := range faultyExprs() {
		sameFault(t, c.what, first.Check(c.e), c.want)
	}
}

func TestAllTellWhatCheckSays(t *testing.T) {
	right, x := pred("P", word("x")), word("x")
	for _, c := range faultyExprs() {
		text, f := first.Print(c.e)
		sameFault(t, "Print: "+c.what, f, c.want)
		free, f := first.Free(c.e)
		sameFault(t, "Free: "+c.what, f, c.want)
		if text != "" || len(free) != 0 {
			t.Errorf("%s: something is answered beside the fault", c.what)
		}
		for what, call := range map[string]func() (api.Expr, api.Fault){
			"Put":              func() (api.Expr, api.Fault) { return first.Put(c.e, "x", x) },
			"Put, no variable": func() (api.Expr, api.Fault) { return first.Put(c.e, "X", x) },
			"Put, no word":     func() (api.Expr, api.Fault) { return first.Put(c.e, "x", api.Word{}) },
		} {
			e, f := call()
			sameFault(t, what+": "+c.what, f, c.want)
			if !isZero(e) {
				t.Errorf("%s: %s: an expression is answered beside the fault", what, c.what)
			}
		}
		for what, call := range map[string]func() (bool, api.Fault){
			"Alike, first":  func() (bool, api.Fault) { return first.Alike(c.e, right) },
			"Alike, second": func() (bool, api.Fault) { return first.Alike(right, c.e) },
			"Alike, both":   func() (bool, api.Fault) { return first.Alike(c.e, c.e) },
			"Alike, second wrong, too": func() (bool, api.Fault) {
				return first.Alike(c.e, nots(7, api.Expr{}))
			},
		} {
			is, f := call()
			sameFault(t, what+": "+c.what, f, c.want)
			if is {
				t.Errorf("%s: %s: true is answered beside the fault", what, c.what)
			}
		}
	}
}

// spoilt is e with a fault by chance at some nodes, the fewer the more rarely they are to come.
func spoilt(chance *rand.Rand, rarely int, e api.Expr) api.Expr {
	out := api.Expr{Kind: e.Kind, Name: e.Name, Words: spoiltWords(chance, rarely, e.Words)}
	for _, k := range e.Kids {
		out.Kids = append(out.Kids, spoilt(chance, rarely, k))
	}
	switch chance.Intn(rarely) {
	case 0:
		out.Kind = chance.Intn(13) - 1
	case 1:
		out.Name = [...]string{"", "x", "P", "xY", "R"}[chance.Intn(5)]
	case 2:
		out.Kids = append(out.Kids, pred("Q"))
	case 3:
		out.Kids = out.Kids[:len(out.Kids)/2]
	}
	return out
}

func spoiltWords(chance *rand.Rand, rarely int, l []api.Word) []api.Word {
	var out []api.Word
	for _, w := range l {
		w.Args = spoiltWords(chance, rarely, w.Args)
		switch chance.Intn(rarely) {
		case 0:
			w.Name = [...]string{"", "x", "C", "F", "abcdefghi", "G"}[chance.Intn(6)]
		case 1:
			w.Args = append(w.Args, word("x"))
		case 2:
			continue
		}
		out = append(out, w)
	}
	return out
}

// anyNode is an expression or a word of a list that tells the nodes in their order.
type anyNode struct {
	e      api.Expr
	w      api.Word
	isWord bool
}

// listed writes the nodes down one by one, with a list of those that are to come, and no more than are asked for.
func listed(e api.Expr, most int) []anyNode {
	toCome := []anyNode{{e: e}}
	var l []anyNode
	for len(toCome) > 0 && len(l) < most {
		n := toCome[0]
		l = append(l, n)
		var in []anyNode
		for _, w := range append(append([]api.Word{}, n.e.Words...), n.w.Args...) {
			in = append(in, anyNode{w: w, isWord: true})
		}
		for _, k := range n.e.Kids {
			in = append(in, anyNode{e: k})
		}
		toCome = append(in, toCome[1:]...)
	}
	return l
}

// checkedAgain tells what Check must, by the list of nodes and what the document says of each.
func checkedAgain(e api.Expr) api.Fault {
	l := listed(e, api.MaxNodes+1)
	for at, n := range l {
		if at == api.MaxNodes {
			return fault(api.ErrMany, 0)
		}
		if code := faultOf(n); code != 0 {
			return fault(code, at)
		}
		for _, ahead := range l[:at] {
			if placesDiffer(ahead, n) {
				return fault(api.ErrForm, at)
			}
		}
	}
	return api.Fault{}
}

func faultOf(n anyNode) int {
	small := "abcdefghijklmnopqrstuvwxyz"
	big := "ABCDEFGHIJKLMNOPQRSTUVWXYZ"
	isVariable := len(n.w.Name+n.e.Name) <= 8 && madeOf(n.w.Name+n.e.Name, small, small)
	isBig := len(n.w.Name+n.e.Name) <= 8 && madeOf(n.w.Name+n.e.Name, big, big+small)
	if n.isWord {
		switch {
		case !isVariable && !isBig:
			return api.ErrName
		case isVariable && len(n.w.Args) > 0:
			return api.ErrSize
		}
		return 0
	}
	if n.e.Kind < api.EPred || n.e.Kind > api.ESome {
		return api.ErrKind
	}
	shape := shapes[n.e.Kind]
	if shape.words >= 0 && len(n.e.Words) != shape.words || len(n.e.Kids) != shape.kids {
		return api.ErrSize
	}
	switch rightName(n.e.Kind) {
	case "P":
		if !isBig {
			return api.ErrName
		}
	case "x":
		if !isVariable {
			return api.ErrName
		}
	default:
		if n.e.Name != "" {
			return api.ErrName
		}
	}
	return 0
}

func madeOf(s, begin, rest string) bool {
	for i, c := range []byte(s) {
		letters := rest
		if i == 0 {
			letters = begin
		}
		found := false
		for _, l := range []byte(letters) {
			found = found || l == c
		}
		if !found {
			return false
		}
	}
	return s != ""
}

func placesDiffer(a, b anyNode) bool {
	if a.isWord != b.isWord {
		return false
	}
	if a.isWord {
		return a.w.Name == b.w.Name && len(a.w.Args) != len(b.w.Args)
	}
	return a.e.Kind == api.EPred && b.e.Kind == api.EPred && a.e.Name == b.e.Name && len(a.e.Words) != len(b.e.Words)
}

// TestCheckLikeOther holds Check against another reckoning, over expressions that are spoilt by chance.
func TestCheckLikeOther(t *testing.T) {
	chance := rand.New(rand.NewSource(13))
	codes := map[int]int{}
	for range 30000 {
		e := spoilt(chance, [...]int{20, 60, 600, 6000}[chance.Intn(4)], byChance(chance, 1+chance.Intn(12), "x", "y", "z"))
		want := checkedAgain(e)
		if got := first.Check(e); got != want {
			t.Fatalf("Check of %s: %v, want %v", told(e), got, want)
		}
		codes[want.Code]++
	}
	for _, code := range []int{api.OK, api.ErrMany, api.ErrKind, api.ErrForm, api.ErrName, api.ErrSize} {
		if codes[code] < 100 {
			t.Errorf("the code %d came %d times", code, codes[code])
		}
	}
}
