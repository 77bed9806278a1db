package first_test

import (
	"math/rand"
	"strings"
	"testing"

	"sequent/api"
	"sequent/first"
)

// lines are those of the document's grammar, without their shorthands: v is a variable, B a big name, > the arrow; other capital letters are lines.
var lines = map[byte][]string{
	'T': {"O", "O>T"},
	'O': {"A", "O|A"},
	'A': {"N", "A&N"},
	'N': {"~N", "!vN", "?vN", "(T)", "1", "0", "W=W", "B", "B(L)"},
	'W': {"v", "B", "B(L)"},
	'L': {"W", "L,W"},
}

// sign is one of a text, and where it begins; 0 is one that no line has.
type sign struct {
	is byte
	at int
}

func signsOf(text string) []sign {
	var l []sign
	for i := 0; i < len(text); {
		rest := text[i:]
		letters := len(rest) - len(strings.TrimLeft(rest, "abcdefghijklmnopqrstuvwxyzABCDEFGHIJKLMNOPQRSTUVWXYZ"))
		switch {
		case rest[0] == ' ' || rest[0] == '\n':
			i++
		case letters > 0:
			l = append(l, sign{letterSign(rest[:letters]), i})
			i += letters
		case strings.HasPrefix(rest, "->"):
			l = append(l, sign{'>', i})
			i += 2
		case strings.IndexByte("~!?()10=,|&", rest[0]) >= 0:
			l = append(l, sign{rest[0], i})
			i++
		default:
			l = append(l, sign{0, i})
			i++
		}
	}
	return l
}

func letterSign(s string) byte {
	switch {
	case len(s) > 8:
		return 0
	case s[0] <= 'Z':
		return 'B'
	case s == strings.ToLower(s):
		return 'v'
	}
	return 0
}

// item is a line of which so many signs are read, from a place on.
type item struct {
	line       byte
	text       string
	read, from int
}

// firstWrong goes by Earley's way of reading: it has all lines at once that the text may be in, and is wrong as soon as there are none.
func firstWrong(text string) (int, bool) {
	signs := signsOf(text)
	sets := [][]item{{{'S', "T", 0, 0}}}
	for at := 0; ; at++ {
		sets[at] = grownItems(sets, at)
		if at == len(signs) {
			break
		}
		var next []item
		for _, i := range sets[at] {
			if i.read < len(i.text) && i.text[i.read] == signs[at].is {
				next = append(next, item{i.line, i.text, i.read + 1, i.from})
			}
		}
		if len(next) == 0 {
			return signs[at].at, true
		}
		sets = append(sets, next)
	}
	for _, i := range sets[len(signs)] {
		if i.line == 'S' && i.read == 1 {
			return 0, false
		}
	}
	return len(text), true
}

func grownItems(sets [][]item, at int) []item {
	set := sets[at]
	known := map[item]bool{}
	for _, i := range set {
		known[i] = true
	}
	add := func(i item) {
		if !known[i] {
			known[i] = true
			set = append(set, i)
		}
	}
	for n := 0; n < len(set); n++ {
		i := set[n]
		if i.read == len(i.text) {
			for _, j := range sets[i.from] {
				if j.read < len(j.text) && j.text[j.read] == i.line {
					add(item{j.line, j.text, j.read + 1, j.from})
				}
			}
			continue
		}
		for _, text := range lines[i.text[i.read]] {
			add(item{i.text[i.read], text, 0, at})
		}
	}
	return set
}

// split reads a right text: at the sign in no brackets that binds least.
func split(s string) api.Expr {
	s = strings.Trim(s, " \n")
	if i := outside(s, "->"); len(i) > 0 {
		return then(split(s[:i[0]]), split(s[i[0]+2:]))
	}
	if i := outside(s, "|"); len(i) > 0 {
		last := i[len(i)-1]
		return or(split(s[:last]), split(s[last+1:]))
	}
	if i := outside(s, "&"); len(i) > 0 {
		last := i[len(i)-1]
		return and(split(s[:last]), split(s[last+1:]))
	}
	switch s[0] {
	case '~':
		return not(split(s[1:]))
	case '!', '?':
		rest := strings.Trim(s[1:], " \n")
		behind := strings.TrimLeft(rest, "abcdefghijklmnopqrstuvwxyz")
		kind := map[byte]int{'!': api.EAll, '?': api.ESome}[s[0]]
		return api.Expr{Kind: kind, Name: rest[:len(rest)-len(behind)], Kids: []api.Expr{split(behind)}}
	case '(':
		return split(s[1 : len(s)-1])
	case '1':
		return node(api.ETrue)
	case '0':
		return node(api.EFalse)
	}
	if i := outside(s, "="); len(i) > 0 {
		return same(splitWord(s[:i[0]]), splitWord(s[i[0]+1:]))
	}
	w := splitWord(s)
	return pred(w.Name, w.Args...)
}

func splitWord(s string) api.Word {
	s = strings.Trim(s, " \n")
	open := strings.IndexByte(s, '(')
	if open < 0 {
		return word(s)
	}
	w := word(strings.Trim(s[:open], " \n"))
	in, from := s[open+1:len(s)-1], 0
	for _, i := range append(outside(in, ","), len(in)) {
		w.Args = append(w.Args, splitWord(in[from:i]))
		from = i + 1
	}
	return w
}

// outside tells where the sign stands in no brackets.
func outside(s, sign string) []int {
	var places []int
	open := 0
	for i := range len(s) {
		switch {
		case s[i] == '(':
			open++
		case s[i] == ')':
			open--
		case open == 0 && strings.HasPrefix(s[i:], sign):
			places = append(places, i)
		}
	}
	return places
}

// parseLikeOther holds Parse against another reader.
func parseLikeOther(t *testing.T, text string) (right bool) {
	e, f := first.Parse(text)
	at, wrong := firstWrong(text)
	if wrong {
		if f != fault(api.ErrText, at) || !isZero(e) {
			t.Fatalf("Parse(%q): %v %v, want a fault at %d", text, told(e), f, at)
		}
		return false
	}
	want := split(text)
	if g := checkedAgain(want); g != (api.Fault{}) {
		if f != g || !isZero(e) {
			t.Fatalf("Parse(%q): %v %v, want %v", text, told(e), f, g)
		}
		return false
	}
	if f != (api.Fault{}) || told(e) != told(want) {
		t.Fatalf("Parse(%q): %v %v, want %v", text, told(e), f, told(want))
	}
	return true
}

func everyText(pieces []string, most int, visit func(string)) {
	var grow func(s string, left int)
	grow = func(s string, left int) {
		visit(s)
		if left > 0 {
			for _, p := range pieces {
				grow(s+p, left-1)
			}
		}
	}
	grow("", most)
}

func TestParseOfAllShortTexts(t *testing.T) {
	right := 0
	look := func(s string) {
		if parseLikeOther(t, s) {
			right++
		}
	}
	everyText([]string{"x", "P", "~", "!", "?", "&", "|", "-", ">", "(", ")", "0", "1", " ", "=", ",", "[]"}, 4, look)
	everyText([]string{"x", "P", "!", "&", "->", "(", ")", "=", " "}, 5, look)
	everyText([]string{"x", "P", "(", ")", "=", ","}, 6, look)
	everyText([]string{"!x ", "P", "x=x", "&", "|", "->", "(", ")"}, 5, look)
	if right < 1000 {
		t.Errorf("only %d of them are right", right)
	}
}

func TestParseOfAllBytes(t *testing.T) {
	for c := range 256 {
		for _, s := range []string{"@", "P@", "P @", "~@", "(@P)", "P -> @Q", "x@", "x@y", "x = @", "x = y@", "P(@)", "P(x@", "P(x@y)", "P(x, @)", "!@ P", "!x@", "!x@P"} {
			parseLikeOther(t, strings.ReplaceAll(s, "@", string([]byte{byte(c)})))
		}
	}
}

// TestParseOfSpoiltTexts: longer texts, with pieces by chance put in and taken out.
func TestParseOfSpoiltTexts(t *testing.T) {
	chance := rand.New(rand.NewSource(2))
	pieces := []string{"x", "y", "P", "Q(", "(", ")", ",", "=", "~", "!", "?", "!z ", "&", "|", "->", "-", " ", "\n", "1", "0", "xY", "Abcdefghi", "é"}
	right, wrong := 0, 0
	for range 20000 {
		e := byChance(chance, 1+chance.Intn(4), "x", "y", "abcdefgh")
		text, _ := first.Print(e)
		for range chance.Intn(3) {
			at := chance.Intn(len(text) + 1)
			to := min(len(text), at+chance.Intn(3))
			text = text[:at] + pieces[chance.Intn(len(pieces))] + text[to:]
		}
		if parseLikeOther(t, text) {
			right++
		} else {
			wrong++
		}
	}
	if right < 1000 || wrong < 1000 {
		t.Errorf("%d of them are right, %d wrong", right, wrong)
	}
}
