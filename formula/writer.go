package formula

import (
	"strings"

	"sequent/api"
)

// How closely signs bind, as the lines of the grammar follow each other.
const (
	bindThen = iota
	bindOr
	bindAnd
	bindNot
)

func bindOf(kind int) int {
	switch kind {
	case api.FThen:
		return bindThen
	case api.FOr:
		return bindOr
	case api.FAnd:
		return bindAnd
	}
	return bindNot
}

type writer struct {
	out strings.Builder
}

// write puts f into brackets where its sign binds less closely than its place asks for: there alone would it be read otherwise.
func (w *writer) write(f api.Formula, least int) {
	if bindOf(f.Kind) >= least {
		w.bare(f)
		return
	}
	w.out.WriteString("(")
	w.bare(f)
	w.out.WriteString(")")
}

func (w *writer) bare(f api.Formula) {
	switch f.Kind {
	case api.FVar:
		w.out.WriteString(f.Name)
	case api.FTrue:
		w.out.WriteString("1")
	case api.FFalse:
		w.out.WriteString("0")
	case api.FNot:
		w.prefix("~", f)
	case api.FBox:
		w.prefix("[]", f)
	case api.FDia:
		w.prefix("<>", f)
	case api.FAnd:
		w.infix(f, bindAnd, " & ", bindNot)
	case api.FOr:
		w.infix(f, bindOr, " | ", bindAnd)
	case api.FThen:
		w.infix(f, bindOr, " -> ", bindThen)
	}
}

func (w *writer) prefix(sign string, f api.Formula) {
	w.out.WriteString(sign)
	w.write(f.Kids[0], bindNot)
}

// infix is told how closely each side must bind: it differs, as signs group to one side.
func (w *writer) infix(f api.Formula, left int, sign string, right int) {
	w.write(f.Kids[0], left)
	w.out.WriteString(sign)
	w.write(f.Kids[1], right)
}
