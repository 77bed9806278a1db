package ordinal

import (
	"sequent/api"
	"sequent/stop"
)

// checker looks at parts, each ahead of those of its Exp; it counts them.
type checker struct {
	seen int
}

// look ends even where Parts hold themselves, as it counts parts ahead of going on.
func (c *checker) look(a api.Ordinal, deep int) {
	for i, p := range a.Parts {
		at := c.seen
		if at == api.MaxNodes || deep > mostDeep {
			stop.At(api.ErrMany, 0)
		}
		c.seen++
		if p.Many < 1 || p.Many > mostMany {
			stop.At(api.ErrRange, at)
		}
		c.look(p.Exp, deep+1)
		if i > 0 && compare(p.Exp, a.Parts[i-1].Exp) >= 0 {
			stop.At(api.ErrForm, at)
		}
	}
}

// faultOf tells what is wrong with the first of these ordinals with which something is.
func faultOf(l ...api.Ordinal) api.Fault {
	for _, a := range l {
		if f := Check(a); f.Code != api.OK {
			return f
		}
	}
	return api.Fault{}
}

// fitting answers a, if it may be handed in again.
func fitting(a api.Ordinal) (api.Ordinal, api.Fault) {
	if Check(a).Code != api.OK {
		return api.Ordinal{}, api.Fault{Code: api.ErrMuch}
	}
	return a, api.Fault{}
}
