package syntax_test

import (
	"reflect"
	"testing"
	"unsafe"

	"sequent/api"
	"sequent/syntax"
)

func bind(name string, w api.Word) api.Bind { return api.Bind{Name: name, Word: w} }

func TestPutAll(t *testing.T) {
	x, y, z := word("x"), word("y"), word("z")
	for what, c := range map[string]struct {
		l     []api.Word
		binds []api.Bind
		want  []api.Word
	}{
		"nothing":           {nil, []api.Bind{bind("x", y)}, nil},
		"no binds":          {[]api.Word{x, word("F", y)}, nil, []api.Word{x, word("F", y)}},
		"within words":      {[]api.Word{word("F", x, word("G", x, y))}, []api.Bind{bind("x", word("C"))}, []api.Word{word("F", word("C"), word("G", word("C"), y))}},
		"all at once":       {[]api.Word{x, y, z}, []api.Bind{bind("x", y), bind("y", x)}, []api.Word{y, x, z}},
		"itself":            {[]api.Word{x}, []api.Bind{bind("x", word("F", x))}, []api.Word{word("F", x)}},
		"the last counts":   {[]api.Word{x, y}, []api.Bind{bind("x", y), bind("y", z), bind("x", z)}, []api.Word{z, z}},
		"big names stay so": {[]api.Word{word("C"), word("F", word("C"))}, []api.Bind{bind("c", x), bind("f", x)}, []api.Word{word("C"), word("F", word("C"))}},
	} {
		if got := syntax.PutAll(c.l, c.binds); !reflect.DeepEqual(got, c.want) {
			t.Errorf("%s: %v, want %v", what, got, c.want)
		}
	}
}

// TestPutWordsAreNewMemory: at each place where one is put, and where none is.
func TestPutWordsAreNewMemory(t *testing.T) {
	name := string([]byte("letters"))
	args := []api.Word{word(name)}
	w := api.Word{Name: "F", Args: args}
	got := syntax.PutAll([]api.Word{word("x"), word("x"), w}, []api.Bind{bind("x", w)})
	places := map[*api.Word]int{&args[0]: 1}
	for _, v := range got {
		places[&v.Args[0]]++
		if unsafe.StringData(v.Args[0].Name) == unsafe.StringData(name) {
			t.Error("a name is kept")
		}
	}
	if len(places) != 4 {
		t.Error("memory is shared")
	}
}

func TestCopy(t *testing.T) {
	name := string([]byte("letters"))
	args := []api.Word{word(name), word("C")}
	w := word("F", args...)
	got := syntax.Copy(w)
	if !reflect.DeepEqual(got, w) {
		t.Errorf("%v, want %v", got, w)
	}
	if &got.Args[0] == &args[0] || unsafe.StringData(got.Args[0].Name) == unsafe.StringData(name) {
		t.Error("memory is shared")
	}
}
