package formula

import (
	"strings"

	"sequent/api"
	"sequent/stop"
)

// reader has a method for each line of the grammar; at is the first byte that is not read.
type reader struct {
	text  string
	at    int
	nodes int
}

// whole counts nodes last: a fault of the text goes ahead of too many of them.
func (r *reader) whole() api.Formula {
	f := r.then()
	r.skipBlanks()
	if r.at < len(r.text) {
		stop.At(api.ErrText, r.at)
	}
	if r.nodes > api.MaxNodes {
		stop.At(api.ErrMany, 0)
	}
	return f
}

func (r *reader) then() api.Formula {
	left := r.or()
	if !r.take("->") {
		return left
	}
	return r.node(api.FThen, left, r.then())
}

func (r *reader) or() api.Formula {
	f := r.and()
	for r.take("|") {
		f = r.node(api.FOr, f, r.and())
	}
	return f
}

func (r *reader) and() api.Formula {
	f := r.not()
	for r.take("&") {
		f = r.node(api.FAnd, f, r.not())
	}
	return f
}

func (r *reader) not() api.Formula {
	switch {
	case r.take("~"):
		return r.node(api.FNot, r.not())
	case r.take("[]"):
		return r.node(api.FBox, r.not())
	case r.take("<>"):
		return r.node(api.FDia, r.not())
	case r.take("("):
		f := r.then()
		if !r.take(")") {
			stop.At(api.ErrText, r.at)
		}
		return f
	case r.take("1"):
		return r.node(api.FTrue)
	case r.take("0"):
		return r.node(api.FFalse)
	}
	return r.name()
}

func (r *reader) name() api.Formula {
	r.skipBlanks()
	rest := r.text[r.at:]
	name := rest[:lettersAhead(rest)]
	if !isName(name) {
		stop.At(api.ErrText, r.at)
	}
	r.at += len(name)
	f := r.node(api.FVar)
	// A piece of the text would keep all of it in memory.
	f.Name = strings.Clone(name)
	return f
}

func (r *reader) node(kind int, kids ...api.Formula) api.Formula {
	r.nodes++
	return api.Formula{Kind: kind, Kids: kids}
}

// take reads the sign, if it is next.
func (r *reader) take(sign string) bool {
	r.skipBlanks()
	if !strings.HasPrefix(r.text[r.at:], sign) {
		return false
	}
	r.at += len(sign)
	return true
}

func (r *reader) skipBlanks() {
	for r.at < len(r.text) && (r.text[r.at] == ' ' || r.text[r.at] == '\n') {
		r.at++
	}
}
