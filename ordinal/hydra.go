package ordinal

import (
	"slices"

	"sequent/api"
	"sequent/stop"
)

func hydraFault(h api.Hydra) api.Fault {
	return stop.Caught(func() {
		c := counter{}
		c.look(h, 1)
	})
}

// counter counts the nodes of a hydra.
type counter struct {
	seen int
}

// look ends even where Kids hold themselves, as it counts nodes ahead of going on.
func (c *counter) look(h api.Hydra, deep int) {
	if c.seen == api.MaxList || deep > mostHydraDeep {
		stop.At(api.ErrMany, 0)
	}
	c.seen++
	for _, k := range h.Kids {
		c.look(k, deep+1)
	}
}

// measure is what Measure answers of h.
func measure(h api.Hydra) api.Ordinal {
	var l []api.Ordinal
	for _, k := range h.Kids {
		l = append(l, measure(k))
	}
	slices.SortFunc(l, func(a, b api.Ordinal) int { return compare(b, a) })
	var out api.Ordinal
	for i, a := range l {
		if i > 0 && compare(a, l[i-1]) == 0 {
			out.Parts[len(out.Parts)-1].Many++
		} else {
			out.Parts = append(out.Parts, api.Part{Exp: a, Many: 1})
		}
	}
	return out
}

// chopFault tells why there is no head to be taken off h by that way, or why too much would grow.
func chopFault(h api.Hydra, way []int, n int) api.Fault {
	if f := hydraFault(h); f.Code != api.OK {
		return f
	}
	if n < 0 || n > mostGrown {
		return api.Fault{Code: api.ErrRange}
	}
	if len(way) == 0 || len(way) > mostWay {
		return api.Fault{Code: api.ErrNone}
	}
	node, parent := h, h
	for at, number := range way {
		if number < 0 || number >= len(node.Kids) {
			return api.Fault{Code: api.ErrNone, At: at}
		}
		parent, node = node, node.Kids[number]
	}
	if len(node.Kids) > 0 {
		return api.Fault{Code: api.ErrKind, At: len(way)}
	}
	if len(way) > 1 && nodes(h)-1+n*(nodes(parent)-1) > api.MaxList {
		return api.Fault{Code: api.ErrMuch}
	}
	return api.Fault{}
}

func nodes(h api.Hydra) int {
	n := 1
	for _, k := range h.Kids {
		n += nodes(k)
	}
	return n
}

// chopped is h without the head to which way leads. Where way has two entries, h is the one that gets more Kids.
func chopped(h api.Hydra, way []int, n int) (out api.Hydra) {
	for at, k := range h.Kids {
		if at != way[0] {
			out.Kids = append(out.Kids, same(k))
		} else if len(way) > 1 {
			out.Kids = append(out.Kids, chopped(k, way[1:], n))
		}
	}
	if len(way) == 2 {
		for range n {
			out.Kids = append(out.Kids, same(out.Kids[way[0]]))
		}
	}
	return out
}

// same is h in new memory.
func same(h api.Hydra) (out api.Hydra) {
	for _, k := range h.Kids {
		out.Kids = append(out.Kids, same(k))
	}
	return out
}
