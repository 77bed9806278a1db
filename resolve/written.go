package resolve

import (
	"strings"

	"sequent/api"
	"sequent/syntax"
	"sequent/words"
)

// isSmall tells whether what came may be a clause.
func (o outcome) isSmall() bool {
	n := len(o.literals)
	for _, l := range o.literals {
		for _, at := range l.words {
			n += o.sizes.Of(at)
		}
	}
	return len(o.literals) <= mostLiterals && n <= api.MaxNodes
}

// clause is what came, in new memory. It takes it to be small. Variables have names that hang on where they stand alone.
func (o outcome) clause() []api.Literal {
	names := naming{numbers[int]{}, syntax.NewNames("", nil), nil}
	var c []api.Literal
	for _, l := range o.literals {
		out := api.Literal{Not: l.not, Name: strings.Clone(l.name)}
		for _, at := range l.words {
			out.Words = append(out.Words, o.graph.Word(at, names.of))
		}
		c = append(c, out)
	}
	return c
}

// naming has a name for each variable, in the order in which they come.
type naming struct {
	classes numbers[int]
	next    *syntax.Names
	names   []string
}

func (n *naming) of(variable words.Node) string {
	at := n.classes.of(variable.Class)
	if at == len(n.names) {
		n.names = append(n.names, n.next.Next())
	}
	return n.names[at]
}

// told writes the literals, so that those that are the same are the same texts.
func told(c []api.Literal) []string {
	var l []string
	for _, literal := range c {
		text := &strings.Builder{}
		if literal.Not {
			text.WriteString(opposite)
		}
		tell(text, api.Word{Name: literal.Name, Args: literal.Words})
		l = append(l, text.String())
	}
	return l
}

const opposite = "~"

func tell(text *strings.Builder, w api.Word) {
	text.WriteString(w.Name)
	sign := byte('(')
	for _, a := range w.Args {
		text.WriteByte(sign)
		tell(text, a)
		sign = ','
	}
	if len(w.Args) > 0 {
		text.WriteByte(')')
	}
}
