package formula

import (
	"sequent/api"
	"sequent/scan"
	"sequent/stop"
)

// reader has a method for each line of the grammar.
type reader struct {
	scan.Text
	nodes int
}

// whole counts nodes last: a fault of the text goes ahead of too many of them.
func (r *reader) whole() api.Formula {
	f := r.then()
	r.End()
	if r.nodes > api.MaxNodes {
		stop.At(api.ErrMany, 0)
	}
	return f
}

func (r *reader) then() api.Formula {
	left := r.or()
	if !r.Take("->") {
		return left
	}
	return r.node(api.FThen, left, r.then())
}

func (r *reader) or() api.Formula {
	f := r.and()
	for r.Take("|") {
		f = r.node(api.FOr, f, r.and())
	}
	return f
}

func (r *reader) and() api.Formula {
	f := r.not()
	for r.Take("&") {
		f = r.node(api.FAnd, f, r.not())
	}
	return f
}

func (r *reader) not() api.Formula {
	switch {
	case r.Take("~"):
		return r.node(api.FNot, r.not())
	case r.Take("[]"):
		return r.node(api.FBox, r.not())
	case r.Take("<>"):
		return r.node(api.FDia, r.not())
	case r.Take("("):
		f := r.then()
		r.Need(")")
		return f
	case r.Take("1"):
		return r.node(api.FTrue)
	case r.Take("0"):
		return r.node(api.FFalse)
	}
	return r.name()
}

func (r *reader) name() api.Formula {
	f := r.node(api.FVar)
	f.Name = r.Name(isLetter, isName)
	return f
}

func (r *reader) node(kind int, kids ...api.Formula) api.Formula {
	r.nodes++
	return api.Formula{Kind: kind, Kids: kids}
}
