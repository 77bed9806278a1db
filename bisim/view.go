package bisim

import (
	"slices"
	"strings"

	"sequent/api"
	"sequent/set"
)

// view is a model by what its worlds see and by their names, each once and rising.
type view struct {
	sees  []set.Set
	names [][]string
}

// viewOf takes m to be a model of which kripke.Check says nothing.
func viewOf(m api.Model) view {
	v := view{sees: make([]set.Set, m.N), names: make([][]string, m.N)}
	for _, pair := range m.Rel {
		v.sees[pair[0]] = v.sees[pair[0]].With(pair[1])
	}
	for w, names := range m.True {
		v.names[w] = slices.Compact(slices.Sorted(slices.Values(names)))
	}
	return v
}

// seen are the worlds that w sees, rising.
func (v view) seen(w int) []int { return v.sees[w].Members(len(v.sees)) }

// those are the worlds of which it is so.
func (v view) those(is func(w int) bool) set.Set {
	var s set.Set
	for w := range v.sees {
		if is(w) {
			s = s.With(w)
		}
	}
	return s
}

// levelsOf parts the worlds ever further: a level has of each world the number of its class. Worlds that are in one class at level k have the same names, and no formula tells them apart with at most k of FBox and FDia in one another; at the last level no formula does.
func levelsOf(v view) [][]int {
	all := [][]int{v.byNames()}
	for {
		last := all[len(all)-1]
		next := v.parted(last)
		if slices.Equal(next, last) {
			return all
		}
		all = append(all, next)
	}
}

func (v view) classes() []int {
	all := levelsOf(v)
	return all[len(all)-1]
}

func (v view) byNames() []int {
	numbers := map[string]int{}
	var l []int
	for _, names := range v.names {
		l = append(l, numberOf(strings.Join(names, " "), numbers))
	}
	return l
}

// sight is what parts worlds at a level: their class at the one ahead of it, and the classes there that they see.
type sight struct {
	class int
	sees  set.Set
}

func (v view) parted(classes []int) []int {
	numbers := map[sight]int{}
	var l []int
	for w, class := range classes {
		l = append(l, numberOf(sight{class, v.classesSeen(w, classes)}, numbers))
	}
	return l
}

func (v view) classesSeen(w int, classes []int) set.Set {
	var s set.Set
	for _, other := range v.seen(w) {
		s = s.With(classes[other])
	}
	return s
}

// numberOf gives out numbers from 0 on, in the order in which keys come first.
func numberOf[K comparable](key K, numbers map[K]int) int {
	n, known := numbers[key]
	if !known {
		n = len(numbers)
		numbers[key] = n
	}
	return n
}

// shrunk takes the first world of each class for all of them, as they have the same names and see the same classes.
func (v view) shrunk() api.Model {
	classes := v.classes()
	var m api.Model
	for w, class := range classes {
		if class < m.N {
			continue
		}
		m.N++
		m.True = append(m.True, copied(v.names[w]))
		for _, other := range v.classesSeen(w, classes).Members(len(classes)) {
			m.Rel = append(m.Rel, [2]int{class, other})
		}
	}
	return m
}

func copied(names []string) []string {
	var l []string
	for _, name := range names {
		l = append(l, strings.Clone(name))
	}
	return l
}
