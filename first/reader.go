package first

import (
	"sequent/api"
	"sequent/scan"
	"sequent/syntax"
)

// reader has a method for each line of the grammar.
type reader struct {
	scan.Text
}

func (r *reader) whole() api.Expr {
	e := r.then()
	r.End()
	return e
}

func (r *reader) then() api.Expr {
	left := r.or()
	if !r.Take("->") {
		return left
	}
	return node(api.EThen, left, r.then())
}

func (r *reader) or() api.Expr {
	e := r.and()
	for r.Take("|") {
		e = node(api.EOr, e, r.and())
	}
	return e
}

func (r *reader) and() api.Expr {
	e := r.not()
	for r.Take("&") {
		e = node(api.EAnd, e, r.not())
	}
	return e
}

func (r *reader) not() api.Expr {
	switch {
	case r.Take("~"):
		return node(api.ENot, r.not())
	case r.Take("!"):
		return r.quantified(api.EAll)
	case r.Take("?"):
		return r.quantified(api.ESome)
	case r.Take("("):
		e := r.then()
		r.Need(")")
		return e
	case r.Take("1"):
		return node(api.ETrue)
	case r.Take("0"):
		return node(api.EFalse)
	}
	return r.ofWords()
}

func (r *reader) quantified(kind int) api.Expr {
	name := r.Name(syntax.IsLetter, syntax.IsVariable)
	e := node(kind, r.not())
	e.Name = name
	return e
}

// ofWords reads a word first: a predicate is written like one, and only what is behind it tells them apart.
func (r *reader) ofWords() api.Expr {
	w := r.word()
	if r.Take("=") {
		return api.Expr{Kind: api.ESame, Words: []api.Word{w, r.word()}}
	}
	if syntax.IsVariable(w.Name) {
		r.Wrong()
	}
	return api.Expr{Kind: api.EPred, Name: w.Name, Words: w.Args}
}

func (r *reader) word() api.Word {
	w := api.Word{Name: r.Name(syntax.IsLetter, syntax.IsName)}
	if syntax.IsBig(w.Name) && r.Take("(") {
		w.Args = r.words()
	}
	return w
}

// words reads what is behind an opening bracket, and the closing one.
func (r *reader) words() []api.Word {
	l := []api.Word{r.word()}
	for r.Take(",") {
		l = append(l, r.word())
	}
	r.Need(")")
	return l
}

func node(kind int, kids ...api.Expr) api.Expr {
	return api.Expr{Kind: kind, Kids: kids}
}
