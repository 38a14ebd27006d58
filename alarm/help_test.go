package alarm_test

import (
	"math"
	"reflect"
	"slices"
	"strings"
	"testing"

	"abacus/alarm"
	"abacus/api"
)

var (
	inf   = math.Inf(1)
	minus = math.Copysign(0, -1)
	nan   = math.NaN()
)

const sec = int64(1e9)

// of are labels, of names and values.
func of(words ...string) []api.Label {
	var l []api.Label
	for i := 0; i+1 < len(words); i += 2 {
		l = append(l, api.Label{Name: words[i], Value: words[i+1]})
	}
	return l
}

var a, b, c = of("a", "1"), of("b", "1"), of("c", "1")

func is(name, value string) api.Match {
	return api.Match{Kind: api.MatchIs, Name: name, Value: value}
}

func rule(name string, op api.RuleOp, bound float64, want ...api.Match) api.Rule {
	return api.Rule{Name: name, Want: want, Op: op, Bound: bound}
}

// timed is a rule with its spans, in seconds.
func timed(r api.Rule, pends, keeps int64) api.Rule {
	r.For, r.Keep = pends*sec, keeps*sec
	return r
}

func value(v float64, set []api.Label) api.Value {
	return api.Value{Set: set, V: v}
}

// sameRules holds rules against each other, Bounds by their bits, nil and empty lists being alike.
func sameRules(x, y []api.Rule) bool {
	return slices.EqualFunc(x, y, func(a, b api.Rule) bool {
		return a.Name == b.Name && slices.Equal(a.Want, b.Want) && a.Op == b.Op && math.Float64bits(a.Bound) == math.Float64bits(b.Bound) && a.For == b.For && a.Keep == b.Keep
	})
}

func sameNotices(x, y []api.Notice) bool {
	return slices.EqualFunc(x, y, func(a, b api.Notice) bool {
		return a.Kind == b.Kind && a.Rule == b.Rule && slices.Equal(a.Set, b.Set) && a.At == b.At && math.Float64bits(a.V) == math.Float64bits(b.V)
	})
}

func sameStanding(x, y []api.Standing) bool {
	return slices.EqualFunc(x, y, func(a, b api.Standing) bool {
		return a.Rule == b.Rule && slices.Equal(a.Set, b.Set) && a.Firing == b.Firing && a.Since == b.Since && a.Last == b.Last
	})
}

func checks(t *testing.T, what string, l []api.Rule, why api.Errno, at int) {
	t.Helper()
	if e, i := alarm.Check(l); e != why || i != at {
		t.Errorf("%s: Check: error %d, %d, want error %d, %d", what, e, i, why, at)
	}
	text, e := alarm.Print(l)
	if e != why || why != api.OK && text != "" {
		t.Errorf("%s: Print: %.300q, error %d, want error %d", what, text, e, why)
	}
	if x, e := alarm.New(l); e != why || (x == nil) != (why != api.OK) {
		t.Errorf("%s: New: error %d, want error %d", what, e, why)
	}
}

// writes holds the text of right rules, which is read as them.
func writes(t *testing.T, want string, l ...api.Rule) {
	t.Helper()
	if text, why := alarm.Print(l); text != want || why != api.OK {
		t.Errorf("Print(%v): %q, error %d, want %q", l, text, why, want)
	}
	parses(t, want, l...)
}

func parses(t *testing.T, s string, want ...api.Rule) {
	t.Helper()
	if l, why, at := alarm.Parse(s); !sameRules(l, want) || why != api.OK || at != (api.Fault{}) {
		t.Errorf("Parse(%.300q): %v, error %d at %v, want %v", s, l, why, at, want)
	}
}

func refuses(t *testing.T, s string, line, broken int) {
	t.Helper()
	if l, why, at := alarm.Parse(s); l != nil || why != api.ErrRule || at != (api.Fault{Line: line, Rule: broken}) {
		t.Errorf("Parse(%.300q): %v, error %d at %v, want line %d, rule %d", s, l, why, at, line, broken)
	}
}

func made(t *testing.T, l ...api.Rule) *alarm.Alarms {
	t.Helper()
	x, why := alarm.New(l)
	if x == nil || why != api.OK {
		t.Fatalf("New(%v): error %d", l, why)
	}
	return x
}

// parsed are the alarms of a text.
func parsed(t *testing.T, s string) *alarm.Alarms {
	t.Helper()
	l, why, at := alarm.Parse(s)
	if why != api.OK {
		t.Fatalf("Parse(%q): error %d at %v", s, why, at)
	}
	return made(t, l...)
}

// steps does a step, at so many nanoseconds, and holds what came of it.
func steps(t *testing.T, x *alarm.Alarms, at int64, l []api.Value, want ...api.Notice) {
	t.Helper()
	if got, why := x.Step(at, l); !sameNotices(got, want) || why != api.OK {
		t.Errorf("Step(%d, %v): %v, error %d, want %v", at, l, got, why, want)
	}
}

// one is a step at so many seconds of the set a alone, of which something comes, or nothing.
func one(t *testing.T, x *alarm.Alarms, at int64, v float64, kind api.NoticeKind) {
	t.Helper()
	var want []api.Notice
	if kind != api.NoticeNone {
		want = append(want, api.Notice{Kind: kind, Rule: "hot", Set: a, At: at * sec, V: v})
	}
	steps(t, x, at*sec, []api.Value{value(v, a)}, want...)
}

func stands(t *testing.T, x *alarm.Alarms, want ...api.Standing) {
	t.Helper()
	if got := x.Standing(); !sameStanding(got, want) {
		t.Errorf("Standing: %v, want %v", got, want)
	}
}

func fails(t *testing.T, x *alarm.Alarms, at int64, l []api.Value, why api.Errno) {
	t.Helper()
	ahead := x.Standing()
	if got, e := x.Step(at, l); got != nil || e != why {
		t.Errorf("Step(%d, %.200v): %v, error %d, want error %d", at, l, got, e, why)
	}
	if !reflect.DeepEqual(x.Standing(), ahead) {
		t.Errorf("a refused Step changes what stands: %v, was %v", x.Standing(), ahead)
	}
}

// many are so many labels, as a set but for their number.
func many(n int) []api.Label {
	var l []api.Label
	for i := range n {
		l = append(l, api.Label{Name: "n" + string(rune('A'+i/26)) + string(rune('a'+i%26)), Value: "v"})
	}
	return l
}

var wrongSets = [][]api.Label{of("b", "x", "a", "x"), of("a", "x", "a", "y"), of("a", ""), of("", "x"), of("1a", "x"), of("a", "\xff"), of("a", strings.Repeat("v", api.MaxValue+1)), of(strings.Repeat("n", api.MaxName+1), "x"), many(api.MaxLabels + 1)}
