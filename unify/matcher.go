package unify

import (
	"slices"
	"strings"

	"sequent/api"
	"sequent/syntax"
	"sequent/words"
)

// matcher has the words that variables stand for. They are never looked up in each other: what stands in them is not of the side whose variables these are.
type matcher map[string]api.Word

// words takes a to be as long as b.
func (m matcher) words(a, b []api.Word) {
	for i, w := range a {
		m.word(w, b[i])
	}
}

func (m matcher) word(a, b api.Word) {
	if syntax.IsVariable(a.Name) {
		m.bind(a.Name, b)
		return
	}
	if a.Name != b.Name || len(a.Args) != len(b.Args) {
		words.Clash()
	}
	m.words(a.Args, b.Args)
}

func (m matcher) bind(name string, w api.Word) {
	if was, known := m[name]; known && !isSame(was, w) {
		words.Clash()
	}
	m[name] = w
}

func isSame(a, b api.Word) bool {
	return a.Name == b.Name && slices.EqualFunc(a.Args, b.Args, isSame)
}

func (m matcher) binds() []api.Bind {
	var l []api.Bind
	for name, w := range m {
		l = append(l, api.Bind{Name: strings.Clone(name), Word: syntax.Copy(w)})
	}
	sortBinds(l)
	return l
}
