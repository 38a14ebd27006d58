package alarm

import (
	"math"
	"strings"

	"abacus/api"
	"abacus/labels"
	"abacus/pairs"
)

// watch is a rule, and those of its alarms that are not idle, rising by their sets.
type watch struct {
	rule     api.Rule
	idle     state
	standing []*alarm
}

// alarm is what a set has come to.
type alarm struct {
	set []api.Label
	now state
}

// state is what an alarm does next, and what is told of it meanwhile.
type state struct {
	idle, firing bool
	since, last  int64
	step         func(at int64, holds bool) (state, api.NoticeKind) // the state that follows it, and what came of it
}

func newWatch(r api.Rule) *watch {
	w := &watch{rule: r}
	w.idle = state{idle: true, step: func(at int64, holds bool) (state, api.NoticeKind) {
		switch {
		case !holds:
			return w.idle, api.NoticeNone
		case w.rule.For == 0:
			return w.firing(at, at), api.NoticeFire
		}
		return w.pending(at, at), api.NoticePend
	}}
	return w
}

func (w *watch) pending(since, last int64) state {
	return state{since: since, last: last, step: func(at int64, holds bool) (state, api.NoticeKind) {
		switch {
		case !holds:
			return w.idle, api.NoticeDrop
		case at-since >= w.rule.For:
			return w.firing(since, at), api.NoticeFire
		}
		return w.pending(since, at), api.NoticeNone
	}}
}

func (w *watch) firing(since, last int64) state {
	return state{firing: true, since: since, last: last, step: func(at int64, holds bool) (state, api.NoticeKind) {
		switch {
		case holds:
			return w.firing(since, at), api.NoticeNone
		case at-last >= w.rule.Keep:
			return w.idle, api.NoticeResolve
		}
		return w.firing(since, last), api.NoticeNone
	}}
}

// step does a step of all alarms of the rule; the values rise by their sets.
func (w *watch) step(at int64, values []*api.Value) []api.Notice {
	var notices []api.Notice
	var standing []*alarm
	for a, v := range pairs.By(w.standing, values, side) {
		if a == nil {
			a = &alarm{set: v.Set, now: w.idle}
		}
		isNew := a.now.idle
		var kind api.NoticeKind
		a.now, kind = a.now.step(at, v != nil && w.holds(*v))
		if kind != api.NoticeNone {
			notices = append(notices, api.Notice{Kind: kind, Rule: strings.Clone(w.rule.Name), Set: copiedSet(a.set), At: at, V: told(v)})
		}
		if a.now.idle {
			continue
		}
		if isNew { // the set is as it was handed in
			a.set = copiedSet(a.set)
		}
		standing = append(standing, a)
	}
	w.standing = standing
	return notices
}

func side(a *alarm, v *api.Value) int {
	return labels.Compare(a.set, v.Set)
}

// holds tells whether the rule speaks of a set, and holds of what it has.
func (w *watch) holds(v api.Value) bool {
	if !Holds(w.rule, v.V) {
		return false
	}
	is, _ := labels.Matches(v.Set, w.rule.Want)
	return is
}

// told is a value as a notice tells it: 0, if there is none; all that is no number has the same bits.
func told(v *api.Value) float64 {
	switch {
	case v == nil:
		return 0
	case math.IsNaN(v.V):
		return math.NaN()
	}
	return v.V
}
