package first

import (
	"strings"

	"sequent/api"
)

// How closely signs bind, as the lines of the grammar follow each other.
const (
	bindThen = iota
	bindOr
	bindAnd
	bindNot
)

func bindOf(kind int) int {
	switch kind {
	case api.EThen:
		return bindThen
	case api.EOr:
		return bindOr
	case api.EAnd:
		return bindAnd
	}
	return bindNot
}

type writer struct {
	out strings.Builder
}

// write puts e into brackets where its sign binds less closely than its place asks for: there alone would it be read otherwise.
func (w *writer) write(e api.Expr, least int) {
	if bindOf(e.Kind) >= least {
		w.bare(e)
		return
	}
	w.out.WriteString("(")
	w.bare(e)
	w.out.WriteString(")")
}

func (w *writer) bare(e api.Expr) {
	switch e.Kind {
	case api.EPred:
		w.called(e.Name, e.Words)
	case api.ESame:
		w.words(e.Words, " = ")
	case api.ETrue:
		w.out.WriteString("1")
	case api.EFalse:
		w.out.WriteString("0")
	case api.ENot:
		w.prefix("~", e)
	case api.EAll:
		w.prefix("!"+e.Name+" ", e)
	case api.ESome:
		w.prefix("?"+e.Name+" ", e)
	case api.EAnd:
		w.infix(e, bindAnd, " & ", bindNot)
	case api.EOr:
		w.infix(e, bindOr, " | ", bindAnd)
	case api.EThen:
		w.infix(e, bindOr, " -> ", bindThen)
	}
}

func (w *writer) prefix(sign string, e api.Expr) {
	w.out.WriteString(sign)
	w.write(e.Kids[0], bindNot)
}

// infix is told how closely each side must bind: it differs, as signs group to one side.
func (w *writer) infix(e api.Expr, left int, sign string, right int) {
	w.write(e.Kids[0], left)
	w.out.WriteString(sign)
	w.write(e.Kids[1], right)
}

// called writes a predicate or a word: both are a name, perhaps of words.
func (w *writer) called(name string, of []api.Word) {
	w.out.WriteString(name)
	if len(of) == 0 {
		return
	}
	w.out.WriteString("(")
	w.words(of, ", ")
	w.out.WriteString(")")
}

func (w *writer) words(l []api.Word, between string) {
	for i, x := range l {
		if i > 0 {
			w.out.WriteString(between)
		}
		w.called(x.Name, x.Args)
	}
}
