package calculus

import (
	"maps"

	"sequent/api"
	"sequent/bag"
)

// step is what a rule sees: the letters are the chapter's.
type step struct {
	f           api.Formula
	left, right []api.Formula // of End
	g, d        []api.Formula // left and right without one f
}

func stepOf(f api.Formula, end api.Sequent) step {
	return step{
		f:     f,
		left:  end.Left,
		right: end.Right,
		g:     bag.Without(end.Left, f),
		d:     bag.Without(end.Right, f),
	}
}

func (s step) isLeft() bool { return len(s.g) < len(s.left) }

func (s step) isRight() bool { return len(s.d) < len(s.right) }

func (s step) a() api.Formula { return s.f.Kids[0] }

func (s step) b() api.Formula { return s.f.Kids[1] }

// rule tells the premises of which End comes, if it applies to F and End, which are plain.
type rule func(s step) (premises []api.Sequent, applies bool)

// atLeft is a rule that applies to a formula of the kind at the Left: only then it is asked for premises, so that they may count on F's Kids.
func atLeft(kind int, premises func(s step) []api.Sequent) rule {
	return func(s step) ([]api.Sequent, bool) {
		if s.f.Kind != kind || !s.isLeft() {
			return nil, false
		}
		return premises(s), true
	}
}

// atRight is likewise of the Right.
func atRight(kind int, premises func(s step) []api.Sequent) rule {
	return func(s step) ([]api.Sequent, bool) {
		if s.f.Kind != kind || !s.isRight() {
			return nil, false
		}
		return premises(s), true
	}
}

func nothing(step) []api.Sequent { return nil }

// rules are those of one calculus. The rule weak is not here, as F and End do not tell its premise.
func rules(intuit bool) map[string]rule {
	all := commonRules()
	if intuit {
		maps.Copy(all, intuitRules())
	} else {
		maps.Copy(all, classicRules())
	}
	return all
}

func commonRules() map[string]rule {
	return map[string]rule{
		"ax": func(s step) ([]api.Sequent, bool) {
			return nil, s.isLeft() && s.isRight()
		},
		"true":  atRight(api.FTrue, nothing),
		"false": atLeft(api.FFalse, nothing),
		"and-l": atLeft(api.FAnd, func(s step) []api.Sequent {
			return []api.Sequent{{Left: bag.With(s.g, s.a(), s.b()), Right: s.right}}
		}),
		"and-r": atRight(api.FAnd, func(s step) []api.Sequent {
			return []api.Sequent{
				{Left: s.left, Right: bag.With(s.d, s.a())},
				{Left: s.left, Right: bag.With(s.d, s.b())},
			}
		}),
		"or-l": atLeft(api.FOr, func(s step) []api.Sequent {
			return []api.Sequent{
				{Left: bag.With(s.g, s.a()), Right: s.right},
				{Left: bag.With(s.g, s.b()), Right: s.right},
			}
		}),
		"then-r": atRight(api.FThen, func(s step) []api.Sequent {
			return []api.Sequent{{Left: bag.With(s.left, s.a()), Right: bag.With(s.d, s.b())}}
		}),
		"not-r": atRight(api.FNot, func(s step) []api.Sequent {
			return []api.Sequent{{Left: bag.With(s.left, s.a()), Right: s.d}}
		}),
		"contr-l": func(s step) ([]api.Sequent, bool) {
			return []api.Sequent{{Left: bag.With(s.left, s.f), Right: s.right}}, s.isLeft()
		},
	}
}

func classicRules() map[string]rule {
	return map[string]rule{
		"or-r": atRight(api.FOr, func(s step) []api.Sequent {
			return []api.Sequent{{Left: s.left, Right: bag.With(s.d, s.a(), s.b())}}
		}),
		"then-l": atLeft(api.FThen, func(s step) []api.Sequent {
			return []api.Sequent{
				{Left: s.g, Right: bag.With(s.right, s.a())},
				{Left: bag.With(s.g, s.b()), Right: s.right},
			}
		}),
		"not-l": atLeft(api.FNot, func(s step) []api.Sequent {
			return []api.Sequent{{Left: s.g, Right: bag.With(s.right, s.a())}}
		}),
		"contr-r": func(s step) ([]api.Sequent, bool) {
			return []api.Sequent{{Left: s.left, Right: bag.With(s.right, s.f)}}, s.isRight()
		},
		ruleCut: func(s step) ([]api.Sequent, bool) {
			return []api.Sequent{
				{Left: s.left, Right: bag.With(s.right, s.f)},
				{Left: bag.With(s.left, s.f), Right: s.right},
			}, true
		},
	}
}

// intuitRules leave what was at the Right behind, where another formula comes there.
func intuitRules() map[string]rule {
	return map[string]rule{
		"or-r1": atRight(api.FOr, func(s step) []api.Sequent {
			return []api.Sequent{{Left: s.left, Right: bag.With(nil, s.a())}}
		}),
		"or-r2": atRight(api.FOr, func(s step) []api.Sequent {
			return []api.Sequent{{Left: s.left, Right: bag.With(nil, s.b())}}
		}),
		"then-l": atLeft(api.FThen, func(s step) []api.Sequent {
			return []api.Sequent{
				{Left: s.g, Right: bag.With(nil, s.a())},
				{Left: bag.With(s.g, s.b()), Right: s.right},
			}
		}),
		"not-l": atLeft(api.FNot, func(s step) []api.Sequent {
			return []api.Sequent{{Left: s.g, Right: bag.With(nil, s.a())}}
		}),
		ruleCut: func(s step) ([]api.Sequent, bool) {
			return []api.Sequent{
				{Left: s.left, Right: bag.With(nil, s.f)},
				{Left: bag.With(s.left, s.f), Right: s.right},
			}, true
		},
	}
}
