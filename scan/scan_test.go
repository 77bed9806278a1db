package scan_test

import (
	"testing"
	"unsafe"

	"sequent/api"
	"sequent/scan"
	"sequent/stop"
)

func isSmall(c byte) bool { return 'a' <= c && c <= 'z' }

func atMostTwo(s string) bool { return s != "" && len(s) <= 2 }

func TestSignsAndNames(t *testing.T) {
	text := scan.New(" \n->\nab\n cd1 ) \n")
	fault := stop.Caught(func() {
		if text.Take("-)") || text.Take(">") || !text.Take("->") || text.Take("->") {
			t.Error("signs are taken otherwise than they stand there")
		}
		if a, b := text.Name(isSmall, atMostTwo), text.Name(isSmall, atMostTwo); a != "ab" || b != "cd" {
			t.Errorf("the names %q and %q are read", a, b)
		}
		text.Need("1")
		text.Need(")")
		text.End()
	})
	if fault != (api.Fault{}) {
		t.Errorf("%v", fault)
	}
}

func TestFaultsAreAtTheFirstByteThatIsNoBlank(t *testing.T) {
	for what, c := range map[string]struct {
		text string
		work func(text *scan.Text)
		at   int
	}{
		"another sign":           {"( \n)", func(t *scan.Text) { t.Take("("); t.Need("]") }, 3},
		"a sign that is not all": {" - >", func(t *scan.Text) { t.Need("->") }, 1},
		"no sign":                {"( \n", func(t *scan.Text) { t.Take("("); t.Need(")") }, 3},
		"a long name":            {"( abc", func(t *scan.Text) { t.Take("("); t.Name(isSmall, atMostTwo) }, 2},
		"no letter":              {"( Ab", func(t *scan.Text) { t.Take("("); t.Name(isSmall, atMostTwo) }, 2},
		"no name":                {"( ", func(t *scan.Text) { t.Take("("); t.Name(isSmall, atMostTwo) }, 2},
		"not at its end":         {"ab \n c", func(t *scan.Text) { t.Name(isSmall, atMostTwo); t.End() }, 5},
		"no blank":               {"\t(", func(t *scan.Text) { t.Need("(") }, 0},
		"whatever is next":       {"ab \n c", func(t *scan.Text) { t.Name(isSmall, atMostTwo); t.Wrong() }, 5},
	} {
		text := scan.New(c.text)
		if got := stop.Caught(func() { c.work(&text) }); got != (api.Fault{Code: api.ErrText, At: c.at}) {
			t.Errorf("%s: %v, want ErrText at %d", what, got, c.at)
		}
	}
}

func TestTextsAreNotKept(t *testing.T) {
	whole := string([]byte("letters"))
	text := scan.New(whole)
	name := text.Name(isSmall, func(string) bool { return true })
	if name != whole || unsafe.StringData(name) == unsafe.StringData(whole) {
		t.Errorf("%q is a piece of the text", name)
	}
}
