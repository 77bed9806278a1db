package calculus

import (
	"sequent/api"
	"sequent/bag"
)

// Rules that are asked for by name: all others are in the map alone.
const (
	ruleCut  = "cut"
	ruleWeak = "weak" // its premise is not told by F and End
)

// checker goes through steps, each ahead of those in it.
type checker struct {
	intuit bool
	rules  map[string]rule
	steps  int
	cuts   int
}

// look ends even where Kids hold themselves, as it counts steps ahead of going on.
func (c *checker) look(p api.Proof, deep int) api.Fault {
	at := c.steps
	if at == api.MaxSteps || deep > api.MaxDeep {
		return api.Fault{Code: api.ErrMany}
	}
	c.steps++
	if code := c.stepCode(p); code != api.OK {
		return api.Fault{Code: code, At: at}
	}
	if p.Rule == ruleCut {
		c.cuts++
	}
	for _, k := range p.Kids {
		if e := c.look(k, deep+1); e.Code != api.OK {
			return e
		}
	}
	return api.Fault{}
}

// stepCode tells what is wrong with the step itself.
func (c *checker) stepCode(p api.Proof) int {
	if c.isNoEnd(p.End) {
		return api.ErrForm
	}
	if p.Rule == ruleWeak {
		return weakCode(p)
	}
	r, known := c.rules[p.Rule]
	if !known {
		return api.ErrKind
	}
	if plainCode(p.F) != api.OK {
		return api.ErrForm
	}
	premises, applies := r(stepOf(p.F, p.End))
	if !applies {
		return api.ErrFalse
	}
	return kidsCode(p.Kids, premises)
}

func (c *checker) isNoEnd(s api.Sequent) bool {
	return CheckSequent(s).Code != api.OK || c.intuit && len(s.Right) > 1
}

// kidsCode tells whether the Kids end with the premises. What the Kids are made of is not looked at yet: it may be anything.
func kidsCode(kids []api.Proof, premises []api.Sequent) int {
	if len(kids) != len(premises) {
		return api.ErrSize
	}
	for i, s := range premises {
		end := kids[i].End
		if !bag.IsEqual(end.Left, s.Left) || !bag.IsEqual(end.Right, s.Right) {
			return api.ErrFalse
		}
	}
	return api.OK
}

func weakCode(p api.Proof) int {
	if p.F.Kind != 0 || p.F.Name != "" || len(p.F.Kids) != 0 {
		return api.ErrForm
	}
	if len(p.Kids) != 1 {
		return api.ErrSize
	}
	end := p.Kids[0].End
	if !bag.IsWithin(end.Left, p.End.Left) || !bag.IsWithin(end.Right, p.End.Right) {
		return api.ErrFalse
	}
	return api.OK
}
