package syntax

import (
	"slices"
	"strings"

	"sequent/api"
)

// PutAll are the words in new memory, with what binds puts for their variables, all at once.
func PutAll(l []api.Word, binds []api.Bind) []api.Word {
	var out []api.Word
	for _, w := range l {
		out = append(out, put(w, binds))
	}
	return out
}

// put goes by the last of binds that speaks of a name: that of the innermost quantifier, which hides those around it.
func put(w api.Word, binds []api.Bind) api.Word {
	for _, b := range slices.Backward(binds) {
		if b.Name == w.Name {
			return Copy(b.Word)
		}
	}
	return api.Word{Name: strings.Clone(w.Name), Args: PutAll(w.Args, binds)}
}

// Copy is the word in new memory.
func Copy(w api.Word) api.Word { return put(w, nil) }
