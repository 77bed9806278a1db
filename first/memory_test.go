package first_test

import (
	"math/rand"
	"reflect"
	"slices"
	"testing"
	"unsafe"

	"sequent/api"
	"sequent/first"
)

// roomy is e with lists that go on behind their lengths, with what must not stand there.
func roomy(e api.Expr) api.Expr {
	out := api.Expr{Kind: e.Kind, Name: e.Name, Words: roomyWords(e.Words)}
	for _, k := range e.Kids {
		out.Kids = append(out.Kids, roomy(k))
	}
	behind := api.Expr{Kind: -7, Name: "BEHIND", Words: words("behind")}
	out.Kids = append(out.Kids, behind, behind)[:len(e.Kids)]
	return out
}

func roomyWords(l []api.Word) []api.Word {
	var out []api.Word
	for _, w := range l {
		out = append(out, api.Word{Name: w.Name, Args: roomyWords(w.Args)})
	}
	return append(out, word("behind"), word("BE HIND"))[:len(l)]
}

// everything copies e with what lies behind its lists' lengths.
func everything(e api.Expr) api.Expr {
	out := api.Expr{Kind: e.Kind, Name: e.Name, Words: everyWord(e.Words)}
	for _, k := range e.Kids[:cap(e.Kids)] {
		out.Kids = append(out.Kids, everything(k))
	}
	return out
}

func everyWord(l []api.Word) []api.Word {
	var out []api.Word
	for _, w := range l[:cap(l)] {
		out = append(out, api.Word{Name: w.Name, Args: everyWord(w.Args)})
	}
	return out
}

// answer has what all calls say of e, w and other.
type answer struct {
	text   string
	free   []string
	read   api.Expr
	put    api.Expr
	alike  bool
	faults [6]api.Fault
}

func asked(e api.Expr, name string, w api.Word, other api.Expr) (a answer) {
	a.faults[0] = first.Check(e)
	a.text, a.faults[1] = first.Print(e)
	a.free, a.faults[2] = first.Free(e)
	a.read, a.faults[3] = first.Parse(a.text)
	a.put, a.faults[4] = first.Put(e, name, w)
	a.alike, a.faults[5] = first.Alike(e, other)
	return a
}

// question is what asked is handed.
type question struct {
	e     api.Expr
	name  string
	w     api.Word
	other api.Expr
}

func (q question) asked() answer { return asked(q.e, q.name, q.w, q.other) }

func someQuestions() []question {
	chance := rand.New(rand.NewSource(7))
	var l []question
	for range 600 {
		e := byChance(chance, 1+chance.Intn(6), "x", "y", "z")
		other := byChance(chance, 1+chance.Intn(3), "x", "y", "z")
		if chance.Intn(2) == 0 && count(e) <= api.MaxNodes {
			other = renamed(chance, e, nil)
		}
		l = append(l, question{e, "x", wordByChance(chance, 3, "x", "y", "z"), other})
		w := append(spoiltWords(chance, 5, []api.Word{word("F", word("x"))}), word("C"))[0]
		l = append(l, question{spoilt(chance, 40, e), "y", w, other})
	}
	return l
}

func TestListsAreOnlyRead(t *testing.T) {
	for _, q := range someQuestions() {
		want := q.asked()
		r := question{roomy(q.e), q.name, roomyWords([]api.Word{q.w})[0], roomy(q.other)}
		parts := func() [3]any {
			return [3]any{everything(r.e), everyWord([]api.Word{r.w}), everything(r.other)}
		}
		ahead := parts()
		if got := r.asked(); !reflect.DeepEqual(got, want) {
			t.Fatalf("%s: %v, want %v", told(q.e), got, want)
		}
		if !reflect.DeepEqual(parts(), ahead) {
			t.Fatalf("%s: it is changed", told(q.e))
		}
	}
}

// places has where the elements of lists lie, those behind their lengths, too.
type places map[any]int

func addPlaces[T any](p places, l []T) {
	all := l[:cap(l)]
	for i := range all {
		p[&all[i]]++
	}
}

func (p places) expr(e api.Expr) {
	p.words(e.Words)
	addPlaces(p, e.Kids)
	for _, k := range e.Kids {
		p.expr(k)
	}
}

func (p places) words(l []api.Word) {
	addPlaces(p, l)
	for _, w := range l {
		p.words(w.Args)
	}
}

func (p places) shared() bool {
	for _, n := range p {
		if n > 1 {
			return true
		}
	}
	return false
}

func TestAnswersAreNewMemory(t *testing.T) {
	for _, q := range someQuestions() {
		p := places{}
		r := question{roomy(q.e), q.name, roomyWords([]api.Word{q.w})[0], roomy(q.other)}
		p.expr(r.e)
		p.expr(r.other)
		p.words(r.w.Args)
		for range 2 {
			a := r.asked()
			addPlaces(p, a.free)
			p.expr(a.read)
			p.expr(a.put)
		}
		if p.shared() {
			t.Fatalf("%s: memory is shared", told(q.e))
		}
	}
}

// TestWhatIsPutIsNewAtEachPlace: lists that were shared in what was handed in are not in what is answered.
func TestWhatIsPutIsNewAtEachPlace(t *testing.T) {
	list := words("x", "x")
	kid := pred("R", list...)
	e := and(or(kid, kid), all("y", kid))
	w := word("G", word("F", word("y")), word("C"))
	w.Args = append(w.Args, w.Args[0])
	for _, name := range []string{"x", "y", "z"} {
		p := places{}
		p.expr(put(t, e, name, w))
		if p.shared() {
			t.Errorf("%s: memory is shared", name)
		}
		for l := range p {
			for i := range list {
				if l == any(&list[i]) {
					t.Errorf("%s: memory is kept", name)
				}
			}
			for i := range w.Args {
				if l == any(&w.Args[i]) {
					t.Errorf("%s: memory of the word is kept", name)
				}
			}
		}
	}
}

// within: is s a piece of the memory of whole?
func within(s, whole string) bool {
	at, from := uintptr(unsafe.Pointer(unsafe.StringData(s))), uintptr(unsafe.Pointer(unsafe.StringData(whole)))
	return at >= from && at < from+uintptr(len(whole))
}

func namesOf(e api.Expr) []string {
	l := []string{e.Name}
	for _, w := range e.Words {
		l = append(l, namesOfWord(w)...)
	}
	for _, k := range e.Kids {
		l = append(l, namesOf(k)...)
	}
	return slices.DeleteFunc(l, func(s string) bool { return s == "" })
}

func namesOfWord(w api.Word) []string {
	l := []string{w.Name}
	for _, a := range w.Args {
		l = append(l, namesOfWord(a)...)
	}
	return l
}

func TestTextsAreNotKept(t *testing.T) {
	text := string([]byte("!bound ~Big(bound, Fun(free))"))
	e := read(t, text)
	free, _ := first.Free(e)
	w := word(string([]byte("Word")), word(string([]byte("free"))))
	name := string([]byte("free"))
	answered := slices.Concat(free, namesOf(put(t, e, name, w)), namesOf(put(t, e, "x", w)))
	for _, s := range namesOf(e) {
		if within(s, text) {
			t.Errorf("Parse keeps the text for %q", s)
		}
		for _, a := range answered {
			if within(a, s) {
				t.Errorf("%q of what was handed in is kept", s)
			}
		}
	}
	for _, s := range append(namesOfWord(w), name) {
		for _, a := range answered {
			if within(a, s) {
				t.Errorf("%q of what was handed in is kept", s)
			}
		}
	}
}

func TestAnswersHangOnArgumentsAlone(t *testing.T) {
	all := someQuestions()
	var ahead []answer
	for _, q := range all {
		ahead = append(ahead, q.asked())
	}
	for at, q := range slices.Backward(all) {
		if a := q.asked(); !reflect.DeepEqual(a, ahead[at]) {
			t.Errorf("%s: %v, and then %v", told(q.e), ahead[at], a)
		}
	}
}

// TestListsMayBeNil: nil and empty are the same, in all calls.
func TestListsMayBeNil(t *testing.T) {
	for _, l := range [][]api.Word{nil, {}, {{Name: "behind"}}} {
		for _, k := range [][]api.Expr{nil, {}, {{Kind: -7}}} {
			e := api.Expr{Kind: api.EAll, Name: "x", Words: l[:0], Kids: []api.Expr{
				{Kind: api.EPred, Name: "R", Words: []api.Word{{Name: "x", Args: l[:0]}, {Name: "y", Args: l[:0]}}, Kids: k[:0]},
			}}
			want := all("x", pred("R", words("x", "y")...))
			if got := printed(t, e); got != "!x R(x, y)" {
				t.Errorf("%q", got)
			}
			if !alike(t, e, want) || !slices.Equal(freeIn(t, e), []string{"y"}) {
				t.Errorf("%s: not like %s", told(e), told(want))
			}
			sameExpr(t, "Put", put(t, e, "y", api.Word{Name: "C", Args: l[:0]}), all("x", pred("R", words("x", "C")...)))
		}
	}
}
