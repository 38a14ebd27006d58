package alarm

import (
	"math"

	"abacus/api"
	"abacus/labels"
)

// sign is how an Op is written, and what it asks of a value and a bound.
type sign struct {
	text string
	asks func(v, bound float64) bool
}

// signs are those of the Ops; where there is none, nothing is asked.
func signs() [api.RuleOps]sign {
	return [api.RuleOps]sign{
		api.RuleAbove: {">", func(v, bound float64) bool { return v > bound }},
		api.RuleLeast: {">=", func(v, bound float64) bool { return v >= bound }},
		api.RuleBelow: {"<", func(v, bound float64) bool { return v < bound }},
		api.RuleMost:  {"<=", func(v, bound float64) bool { return v <= bound }},
		api.RuleIs:    {"==", func(v, bound float64) bool { return v == bound }},
		api.RuleNot:   {"!=", func(v, bound float64) bool { return v != bound }},
	}
}

func isOp(op api.RuleOp) bool {
	return op > api.RuleNone && op < api.RuleOps
}

// Holds tells whether a value is what a rule asks.
func Holds(r api.Rule, v float64) bool {
	return isOp(r.Op) && !math.IsNaN(v) && signs()[r.Op].asks(v, r.Bound)
}

// Check tells whether rules may be: the number of the first one at fault.
func Check(l []api.Rule) (api.Errno, int) {
	seen := map[string]struct{}{}
	for i, r := range l {
		if _, is := seen[r.Name]; is || !isRight(r) {
			return api.ErrRule, i
		}
		seen[r.Name] = struct{}{}
	}
	if len(l) > api.MaxRules {
		return api.ErrMany, api.MaxRules
	}
	return api.OK, 0
}

func isRight(r api.Rule) bool {
	return labels.Name(r.Name) && areMatchers(r.Want) && isOp(r.Op) && !math.IsNaN(r.Bound) && isMoment(r.For) && isMoment(r.Keep)
}

// areMatchers tells whether matchers are right, and not too many.
func areMatchers(l []api.Match) bool {
	_, why := labels.Matches(nil, l)
	return why == api.OK
}

// isMoment tells whether x is a moment; spans are the same numbers.
func isMoment(x int64) bool {
	return x >= 0 && x <= api.MaxAt
}
