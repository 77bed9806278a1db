package net_test

import (
	"math/rand"
	"slices"
	"strings"
	"testing"

	"sequent/api"
	"sequent/net"
)

// proved looks that Prove finds links just where it is so, and that the net with these is correct.
func proved(t *testing.T, l []api.Linear, want bool) {
	t.Helper()
	links, is, e := net.Prove(l)
	if is != want || e != (api.Fault{}) || !is && len(links) != 0 {
		t.Fatalf("%v: %v, %v, %v, want %v", toldAll(l), links, is, e, want)
	}
	if !want {
		return
	}
	if why := faultOf(l, links); why != (api.Fault{}) || !trial(l, links) {
		t.Fatalf("%v with %v: it is not correct: %v", toldAll(l), links, why)
	}
	correct(t, l, links, true)
	sequential(t, l, links, true)
}

// isLinkable is the second reckoning: all links are tried.
func isLinkable(l []api.Linear) bool {
	return slices.ContainsFunc(allLinks(l), func(links [][2]int) bool { return trial(l, links) })
}

func TestProve(t *testing.T) {
	for text, want := range map[string]bool{
		"p":               false,
		"p P":             true,
		"P p":             true,
		"p p":             false,
		"P P":             false,
		"p Q":             false,
		"p P p":           false,
		"p P q Q":         false,
		"+pP":             true,
		"*pP":             false,
		"*pp P P":         true,
		"+pp P P":         false,
		"*pq +QP":         true,
		"*pq *QP":         false,
		"+pq +QP":         false,
		"+p*qQ P":         false,
		"*p+qQ P":         true,
		"*+pPP p":         true,
		"**pqr +P+QR":     true,
		"**pp*pp +P+P+PP": true,
		"**pq*rs ++PQ+RS": true,
		"*pQ *qR *rS s P": true,
		"*pQ *qR *rS *sP": false,
		"+*PQ*RS *+pr+qs": false,
		"+*PQ*RS *+pq+rs": true,
	} {
		l := list(text)
		if isLinkable(l) != want {
			t.Errorf("%s: by trial it is %v", text, !want)
			continue
		}
		proved(t, l, want)
	}
}

// TestProveAllSmall goes through all lists with up to five leaves, and some with six: held against all links, and against all proofs.
func TestProveAllSmall(t *testing.T) {
	chance := rand.New(rand.NewSource(5))
	count := map[bool]int{}
	for leaves := 1; leaves <= 6; leaves++ {
		for _, l := range smallLists(leaves) {
			if leaves > 4 && chance.Intn(12) > 0 {
				continue
			}
			want := isLinkable(l)
			if want != isProvable(l) {
				t.Fatalf("%v: the reckonings differ", toldAll(l))
			}
			proved(t, l, want)
			count[want]++
		}
	}
	if count[true] < 300 || count[false] < 300 {
		t.Errorf("few lists came: %v", count)
	}
}

func TestProveAny(t *testing.T) {
	chance := rand.New(rand.NewSource(6))
	count := map[bool]int{}
	for range 3000 {
		l := someList(chance, 1+chance.Intn(10), []string{"p", "q", "r"}[:1+chance.Intn(3)]...)
		want := isLinkable(l)
		proved(t, l, want)
		count[want]++
	}
	for range 1000 {
		n := 1 + chance.Intn(6)
		l, _ := grown(chance, n, 1+chance.Intn(n+1), []string{"p", "q", "r"}[:1+chance.Intn(3)]...)
		proved(t, l, true)
		l = exchangedAt(exchangedAt(l, chance.Intn(len(nodesOf(l...)))), chance.Intn(len(nodesOf(l...))))
		want := isLinkable(l)
		proved(t, l, want)
		count[want]++
	}
	if count[true] < 100 || count[false] < 100 {
		t.Errorf("few lists came: %v", count)
	}
}

// TestProveTwelve has just as many leaves as there may be.
func TestProveTwelve(t *testing.T) {
	many := func(word string, n int) string { return strings.Repeat(word+" ", n) }
	for text, want := range map[string]bool{
		many("p", 12):                 false,
		many("p P", 6):                false,
		many("+pP", 6):                false,
		many("*pP", 6):                false,
		many("*pP", 5) + "p P":        true,
		many("*pP", 5) + "+pP":        true,
		"*p*p*p*p*pp " + many("P", 6): true,
		"*p*p*p*p*pp +P+P+P+P+PP":     true,
		"*+pP*+pP*+pP*+pP*+pP+pP":     true,
	} {
		l := list(text)
		if n := len(leavesOf(l...)); n != 12 {
			t.Fatalf("%s: %d leaves", text, n)
		}
		proved(t, l, want)
	}
	chance := rand.New(rand.NewSource(7))
	for range 30 {
		l, _ := grown(chance, 6, 1+chance.Intn(7), "p")
		proved(t, l, true)
		l = exchangedAt(exchangedAt(l, chance.Intn(len(nodesOf(l...)))), chance.Intn(len(nodesOf(l...))))
		proved(t, l, isLinkable(l))
	}
}

// TestProveTooMany: with one leaf more, or many, whether or not there are links, but behind what Check says.
func TestProveTooMany(t *testing.T) {
	thirteen := slices.Repeat(list("p"), 13)
	fourteen, _ := grown(rand.New(rand.NewSource(8)), 7, 3, "p")
	for _, l := range [][]api.Linear{
		thirteen,
		fourteen,
		slices.Repeat(list("p P"), 10),
		list("*p*p*p*p*pp P P P P P P q"),
		{tower(13, api.LPar, 0)},
		{tower(100, api.LPar, 1), atom("p")},
	} {
		if links, is, e := net.Prove(l); len(links) != 0 || is || e != fault(api.ErrMany, 0) {
			t.Errorf("%v: %v, %v, %v", toldAll(l), links, is, e)
		}
	}
	if _, _, e := net.Prove(append(thirteen, atom("P"))); e != fault(api.ErrName, 13) {
		t.Errorf("a fault behind 13 leaves: %v", e)
	}
}
