package alarm_test

import (
	"math"
	"math/rand"
	"slices"
	"strconv"
	"strings"
	"testing"
	"unsafe"

	"abacus/alarm"
	"abacus/api"
	"abacus/labels"
)

const (
	nothing  = api.NoticeNone
	pends    = api.NoticePend
	drops    = api.NoticeDrop
	fires    = api.NoticeFire
	resolves = api.NoticeResolve
)

func notice(kind api.NoticeKind, rule string, set []api.Label, at int64, v float64) api.Notice {
	return api.Notice{Kind: kind, Rule: rule, Set: set, At: at, V: v}
}

func standing(rule string, set []api.Label, firing bool, since, last int64) api.Standing {
	return api.Standing{Rule: rule, Set: set, Firing: firing, Since: since * sec, Last: last * sec}
}

func TestExamplesOfSteps(t *testing.T) { // examples 1 and 3
	x := parsed(t, "hot {} > 5 for 10s keep 5s")
	one(t, x, 0, 6, pends)
	one(t, x, 9, 6, nothing)
	one(t, x, 10, 7, fires)
	one(t, x, 12, 1, nothing)
	one(t, x, 15, 1, resolves)
	x = parsed(t, "hot {} > 5 for 10s keep 5s")
	one(t, x, 0, 6, pends)
	one(t, x, 9, 1, drops)
	x = parsed(t, "hot {} > 5 for 10s keep 5s")
	fails(t, x, -1, nil, api.ErrRange)
	one(t, x, 3, 1, nothing)
	fails(t, x, 3*sec, nil, api.ErrRange)
}

func TestStates(t *testing.T) { // the words: a step
	x := parsed(t, "hot {} > 5 for 10s keep 5s")
	stands(t, x)
	one(t, x, 1, 5, nothing)
	stands(t, x)
	one(t, x, 2, 6, pends)
	stands(t, x, standing("hot", a, false, 2, 2))
	one(t, x, 11, 8, nothing)
	stands(t, x, standing("hot", a, false, 2, 11))
	one(t, x, 12, 9, fires) // at the very moment
	stands(t, x, standing("hot", a, true, 2, 12))
	one(t, x, 20, 7, nothing)
	stands(t, x, standing("hot", a, true, 2, 20))
	one(t, x, 24, 5, nothing)
	stands(t, x, standing("hot", a, true, 2, 20))
	steps(t, x, 25*sec-1, []api.Value{value(1, a)})
	one(t, x, 25, 4, resolves) // at the very moment
	stands(t, x)
	one(t, x, 26, 4, nothing)
	one(t, x, 27, 6, pends) // and again
	one(t, x, 28, 4, drops)
	stands(t, x)
	one(t, x, 29, 6, pends)
	steps(t, x, 39*sec-1, []api.Value{value(6, a)})
	steps(t, x, 39*sec+5, []api.Value{value(6, a)}, notice(fires, "hot", a, 39*sec+5, 6))
	one(t, x, 43, 1, nothing)
	one(t, x, 44, 6, nothing) // it holds again
	stands(t, x, standing("hot", a, true, 29, 44))
	one(t, x, 48, 1, nothing)
	one(t, x, 49, 1, resolves)
	one(t, x, 50, 6, pends)
	one(t, x, 100, 6, fires) // long behind
	one(t, x, 1000, 1, resolves)
}

func TestSpansOfNothing(t *testing.T) { // For and Keep of 0
	x := parsed(t, "hot {} > 5")
	one(t, x, 0, 6, fires)
	stands(t, x, standing("hot", a, true, 0, 0))
	one(t, x, 1, 6, nothing)
	stands(t, x, standing("hot", a, true, 0, 1))
	one(t, x, 2, 5, resolves)
	stands(t, x)
	one(t, x, 3, 7, fires)
	one(t, x, 4, nan, resolves)
	x = parsed(t, "hot {} > 5 keep 5s")
	one(t, x, 0, 6, fires)
	one(t, x, 4, 1, nothing)
	one(t, x, 5, 1, resolves)
	x = parsed(t, "hot {} > 5 for 5s")
	one(t, x, 0, 6, pends)
	one(t, x, 5, 6, fires)
	one(t, x, 6, 1, resolves)
	x = parsed(t, "hot {} > 5 for 1ns keep 1ns")
	steps(t, x, 0, []api.Value{value(6, a)}, notice(pends, "hot", a, 0, 6))
	steps(t, x, 1, []api.Value{value(6, a)}, notice(fires, "hot", a, 1, 6))
	steps(t, x, 2, []api.Value{value(1, a)}, notice(resolves, "hot", a, 2, 1))
}

func TestLongSpans(t *testing.T) { // as long as spans may be
	x := made(t, api.Rule{Name: "hot", Op: api.RuleAbove, Bound: 5, For: api.MaxAt, Keep: api.MaxAt})
	hot := []api.Value{value(6, a)}
	steps(t, x, 0, hot, notice(pends, "hot", a, 0, 6))
	steps(t, x, api.MaxAt-1, hot)
	steps(t, x, api.MaxAt, hot, notice(fires, "hot", a, api.MaxAt, 6))
	fails(t, x, api.MaxAt, hot, api.ErrRange)
	fails(t, x, api.MaxAt+1, hot, api.ErrRange)
	x = made(t, api.Rule{Name: "hot", Op: api.RuleAbove, Bound: 5, Keep: api.MaxAt})
	steps(t, x, 0, hot, notice(fires, "hot", a, 0, 6))
	steps(t, x, api.MaxAt-1, nil)
	steps(t, x, api.MaxAt, nil, notice(resolves, "hot", a, api.MaxAt, 0))
}

func TestValuesThatAreNone(t *testing.T) { // the words, 26.3: a set that is not told, a value that is no number
	none := math.Float64frombits(0x7ff8000000000001)
	other := math.Float64frombits(0xfff8000000000123)
	x := parsed(t, "hot {} > 5 for 5s")
	one(t, x, 0, 6, pends)
	steps(t, x, 1*sec, nil, notice(drops, "hot", a, sec, 0))
	one(t, x, 2, 6, pends)
	steps(t, x, 3*sec, []api.Value{value(other, a)}, notice(drops, "hot", a, 3*sec, none))
	one(t, x, 4, 6, pends)
	steps(t, x, 5*sec, []api.Value{value(9, b)}, notice(drops, "hot", a, 5*sec, 0), notice(pends, "hot", b, 5*sec, 9))
	steps(t, x, 6*sec, []api.Value{value(minus, b)}, notice(drops, "hot", b, 6*sec, minus))
	one(t, x, 7, 6, pends)
	one(t, x, 12, inf, fires)
	steps(t, x, 13*sec, []api.Value{value(none, a)}, notice(resolves, "hot", a, 13*sec, none))
	x = parsed(t, "hot {} != 0")
	one(t, x, 0, none, nothing)
	one(t, x, 1, minus, nothing)
	one(t, x, 2, -inf, fires)
	one(t, x, 3, none, resolves)
	x = parsed(t, "hot {} <= 0") // of a set that is not told nothing holds
	steps(t, x, 0, nil)
	one(t, x, 1, minus, fires)
	steps(t, x, 2*sec, nil, notice(resolves, "hot", a, 2*sec, 0))
	steps(t, x, 3*sec, []api.Value{value(0, nil)}, notice(fires, "hot", nil, 3*sec, 0)) // the empty set is one
	steps(t, x, 4*sec, []api.Value{}, notice(resolves, "hot", nil, 4*sec, 0))
	steps(t, x, 5*sec, []api.Value{value(0, []api.Label{})}, notice(fires, "hot", nil, 5*sec, 0))
}

func TestManySetsAndRules(t *testing.T) { // 26.3, 26.4, 26.8
	x := parsed(t, `z {} > 5
y {a="1"} > 5 for 10s
x {a=""} < 5
w {a=~"*",b!="1"} >= 5 keep 10s`)
	ab := of("a", "1", "b", "1")
	at := int64(0)
	steps(t, x, at, []api.Value{value(6, c), value(9, ab), value(6, a), value(1, b)},
		notice(fires, "z", a, at, 6), notice(fires, "z", ab, at, 9), notice(fires, "z", c, at, 6),
		notice(pends, "y", a, at, 6), notice(pends, "y", ab, at, 9),
		notice(fires, "x", b, at, 1),
		notice(fires, "w", a, at, 6), notice(fires, "w", c, at, 6))
	stands(t, x, standing("z", a, true, 0, 0), standing("z", ab, true, 0, 0), standing("z", c, true, 0, 0), standing("y", a, false, 0, 0), standing("y", ab, false, 0, 0), standing("x", b, true, 0, 0), standing("w", a, true, 0, 0), standing("w", c, true, 0, 0))
	at = 5 * sec
	steps(t, x, at, []api.Value{value(7, a), value(5, b)},
		notice(resolves, "z", ab, at, 0), notice(resolves, "z", c, at, 0),
		notice(drops, "y", ab, at, 0),
		notice(resolves, "x", b, at, 5))
	stands(t, x, standing("z", a, true, 0, 5), standing("y", a, false, 0, 5), standing("w", a, true, 0, 5), standing("w", c, true, 0, 0))
	at = 10 * sec
	steps(t, x, at, []api.Value{value(7, a), value(7, ab)}, notice(fires, "z", ab, at, 7), notice(fires, "y", a, at, 7), notice(pends, "y", ab, at, 7), notice(resolves, "w", c, at, 0))
	stands(t, x, standing("z", a, true, 0, 10), standing("z", ab, true, 10, 10), standing("y", a, true, 0, 10), standing("y", ab, false, 10, 10), standing("w", a, true, 0, 10))
}

func TestSetsInOrder(t *testing.T) { // 26.3: by labels.Compare, not by their texts
	x := parsed(t, "hot {} > 5")
	rising := [][]api.Label{nil, of("A", "1"), of("a", "1"), of("a", "1", "b", "1"), of("a", "1!"), of("a", "2"), of("a1", "1"), of("b", "1"), of("z", "1")}
	if !slices.IsSortedFunc(rising, labels.Compare) {
		t.Fatal("the test's sets do not rise")
	}
	var l []api.Value
	var fired, resolved []api.Notice
	var all []api.Standing
	for i, set := range rising {
		l = append(l, value(float64(10+i), set))
		fired = append(fired, notice(fires, "hot", set, 0, float64(10+i)))
		resolved = append(resolved, notice(resolves, "hot", set, sec, 0))
		all = append(all, standing("hot", set, true, 0, 0))
	}
	slices.Reverse(l)
	kept := slices.Clone(l)
	steps(t, x, 0, l, fired...)
	if !slices.EqualFunc(l, kept, func(x, y api.Value) bool { return slices.Equal(x.Set, y.Set) && x.V == y.V }) {
		t.Error("what was handed in is in another order:", l)
	}
	stands(t, x, all...)
	steps(t, x, sec, nil, resolved...)
}

func TestStepErrors(t *testing.T) { // 26.3
	x := parsed(t, "hot {} > 5 for 5s")
	hot := value(6, a)
	var crowd []api.Value
	for i := range api.MaxSeries + 1 {
		crowd = append(crowd, value(float64(i), of("i", strconv.Itoa(i))))
	}
	wrong, twice := []api.Value{hot, value(1, wrongSets[0])}, []api.Value{hot, value(1, b), value(2, slices.Clone(a))}
	all := append(append(slices.Clone(crowd), wrong...), twice...)
	for _, at := range []int64{-1, math.MinInt64, api.MaxAt + 1, math.MaxInt64} {
		fails(t, x, at, nil, api.ErrRange)
		fails(t, x, at, all, api.ErrRange)
	}
	one(t, x, 1, 6, pends)
	for _, at := range []int64{0, sec - 1, sec} {
		fails(t, x, at, nil, api.ErrRange)
		fails(t, x, at, []api.Value{hot}, api.ErrRange)
		fails(t, x, at, all, api.ErrRange)
	}
	fails(t, x, 100*sec, crowd, api.ErrMany)
	fails(t, x, 100*sec, append(slices.Clone(wrong), crowd...), api.ErrMany)
	fails(t, x, 100*sec, append(slices.Clone(twice), crowd...), api.ErrMany)
	for _, set := range wrongSets {
		fails(t, x, 100*sec, []api.Value{value(1, set)}, api.ErrLabel)
		fails(t, x, 100*sec, []api.Value{hot, hot, value(1, set)}, api.ErrLabel) // ahead of ErrTwice
		fails(t, x, 100*sec, append(slices.Clone(crowd[:api.MaxSeries-1]), value(1, set)), api.ErrLabel)
	}
	fails(t, x, 100*sec, twice, api.ErrTwice)
	fails(t, x, 100*sec, []api.Value{value(1, nil), hot, value(nan, []api.Label{})}, api.ErrTwice)
	fails(t, x, 100*sec, append(slices.Clone(crowd[:api.MaxSeries-1]), crowd[500]), api.ErrTwice)
	stands(t, x, standing("hot", a, false, 1, 1))
	one(t, x, 2, 6, nothing) // the refused ones were none: their moments were not
	one(t, x, 6, 6, fires)
	steps(t, x, 7*sec, crowd[:api.MaxSeries], append([]api.Notice{notice(resolves, "hot", a, 7*sec, 0)}, noticesOf(crowd[:api.MaxSeries], 7*sec)...)...)
}

// noticesOf are those of the alarms that pend then, by their sets.
func noticesOf(l []api.Value, at int64) []api.Notice {
	var all []api.Notice
	for _, v := range l {
		if v.V > 5 {
			all = append(all, notice(pends, "hot", v.Set, at, v.V))
		}
	}
	slices.SortFunc(all, func(x, y api.Notice) int { return labels.Compare(x.Set, y.Set) })
	return all
}

func TestNil(t *testing.T) { // 26.4
	var x *alarm.Alarms
	for _, at := range []int64{-1, 0, api.MaxAt + 1} {
		for _, l := range [][]api.Value{nil, {value(1, a)}, {value(1, wrongSets[0])}} {
			if got, why := x.Step(at, l); got != nil || why != api.ErrNil {
				t.Errorf("Step of nil: %v, error %d", got, why)
			}
		}
	}
	if l := x.Standing(); l != nil {
		t.Error("Standing of nil:", l)
	}
	empty := made(t)
	steps(t, empty, 0, []api.Value{value(1, a)})
	stands(t, empty)
	fails(t, empty, 0, nil, api.ErrRange)
	fails(t, empty, 1, []api.Value{value(1, a), value(1, a)}, api.ErrTwice)
}

func TestNewMemory(t *testing.T) { // 26.4
	rules := []api.Rule{timed(rule("hot", api.RuleAbove, 5, is("a", "1")), 5, 5)}
	x := made(t, rules...)
	twin := made(t, rules...)
	rules[0].Want[0] = is("a", "2") // it was not kept
	rules[0] = rule("cold", api.RuleBelow, 0)
	set := of("a", "1")
	l := []api.Value{value(6, set)}
	var told [][]api.Label
	for _, y := range []*alarm.Alarms{x, twin} {
		got, _ := y.Step(0, l)
		if !sameNotices(got, []api.Notice{notice(pends, "hot", a, 0, 6)}) {
			t.Fatal("Step:", got)
		}
		first, second := y.Standing(), y.Standing()
		told = append(told, got[0].Set, first[0].Set, second[0].Set)
	}
	memory := map[*byte]bool{unsafe.StringData(set[0].Name): true, unsafe.StringData(set[0].Value): true}
	for _, set := range told {
		for _, text := range []string{set[0].Name, set[0].Value} {
			if memory[unsafe.StringData(text)] {
				t.Error("texts share their memory")
			}
			memory[unsafe.StringData(text)] = true
		}
		clear(set[:cap(set)])
	}
	set[0] = api.Label{Name: "z", Value: "z"} // it was not kept
	l[0] = value(0, nil)
	stands(t, x, standing("hot", a, false, 0, 0))
	one(t, x, 5, 6, fires)
	stands(t, twin, standing("hot", a, false, 0, 0)) // they have nothing to do with one another
	fired, _ := twin.Step(5*sec, []api.Value{value(6, a)})
	clear(fired[0].Set)
	clear(fired[:cap(fired)])
	stands(t, twin, standing("hot", a, true, 0, 5))
	one(t, twin, 10, 1, resolves)
}

// history is what one alarm was told, and what came of it.
type history struct {
	at     []int64
	held   []bool
	kinds  []api.NoticeKind
	values []float64
}

// outcome tells, of all that an alarm was told, what is to come of its last moment, and whether it stands: from the beginning on, without a state.
func outcome(h *history, pendsFor, keeps int64) (api.NoticeKind, bool, bool, int64, int64) {
	var kind api.NoticeKind
	stands, firing := false, false
	var since, last int64
	for i, at := range h.at {
		kind = nothing
		if h.held[i] {
			if !stands {
				stands, since, kind = true, at, pends
			}
			last = at
			if !firing && at-since >= pendsFor {
				firing, kind = true, fires
			}
			continue
		}
		if stands && !firing {
			stands, kind = false, drops
		}
		if firing && at-last >= keeps {
			stands, firing, kind = false, false, resolves
		}
	}
	return kind, stands, firing, since, last
}

// inTurns holds that an alarm's notices come in turns.
func inTurns(t *testing.T, kinds []api.NoticeKind, pendsFor int64) { // 26.7
	t.Helper()
	ahead := resolves
	for _, kind := range kinds {
		is := false
		switch ahead {
		case resolves, drops:
			is = kind == pends && pendsFor > 0 || kind == fires && pendsFor == 0
		case pends:
			is = kind == drops || kind == fires
		case fires:
			is = kind == resolves
		}
		if !is {
			t.Errorf("notices of an alarm with For %d: %v", pendsFor, kinds)
		}
		ahead = kind
	}
}

// noFalseAlarm holds that an alarm fires when it has held long enough, and is resolved when it has not.
func noFalseAlarm(t *testing.T, h *history, pendsFor, keeps int64) { // 26.6
	t.Helper()
	for i, kind := range h.kinds {
		switch kind {
		case fires:
			from := i
			for from > 0 && h.held[from-1] && h.kinds[from] != pends {
				from--
			}
			if !h.held[i] || h.at[i]-h.at[from] < pendsFor {
				t.Errorf("it fires at %d, though it has held from %d on", h.at[i], h.at[from])
			}
		case resolves:
			from := i
			for from > 0 && !h.held[from] {
				from--
			}
			if h.held[i] || h.at[i]-h.at[from] < keeps {
				t.Errorf("it is resolved at %d, though it held at %d", h.at[i], h.at[from])
			}
		}
	}
}

func TestStepsOfAny(t *testing.T) { // 26.3, 26.4, 26.6 to 26.8
	r := rand.New(rand.NewSource(7))
	pool := [][]api.Label{nil, a, b, of("a", "1", "b", "1"), of("a", "2"), of("a", "1!")}
	found := map[api.NoticeKind]int{}
	for n := 0; n < 800 && !t.Failed(); n++ {
		var rules []api.Rule
		for i := range r.Intn(5) {
			x := rule("r"+strconv.Itoa(r.Intn(10)*10+i), allOps[r.Intn(6)], float64(r.Intn(3)))
			x.For, x.Keep = r.Int63n(10)*r.Int63n(2), r.Int63n(10)*r.Int63n(2)
			for range r.Intn(2) {
				x.Want = append(x.Want, api.Match{Kind: api.MatchKind(1 + r.Intn(4)), Name: []string{"a", "b"}[r.Intn(2)], Value: []string{"", "1", "*", "?"}[r.Intn(4)]})
			}
			rules = append(rules, x)
		}
		x := made(t, rules...)
		alone := map[string]*alarm.Alarms{} // each rule, as if there were no other
		histories := map[string]*history{}
		for _, rule := range rules {
			alone[rule.Name] = made(t, rule)
		}
		at := int64(-1)
		for range 60 {
			at += 1 + r.Int63n(4)
			var l []api.Value
			for _, set := range pool {
				if r.Intn(4) > 0 {
					l = append(l, value([]float64{0, 1, 2, minus, nan, inf}[r.Intn(3+r.Intn(4))], set))
				}
			}
			var want []api.Notice
			var standing []api.Standing
			for _, rule := range rules {
				sets := slices.Clone(pool)
				slices.SortFunc(sets, labels.Compare)
				for _, set := range sets {
					key := rule.Name + " " + text(set)
					h := histories[key]
					if h == nil {
						h = &history{}
						histories[key] = h
					}
					v, held := 0.0, false
					for _, x := range l {
						if slices.Equal(x.Set, set) {
							wanted, _ := labels.Matches(set, rule.Want)
							v, held = x.V, wanted && alarm.Holds(rule, x.V)
						}
					}
					h.at, h.held = append(h.at, at), append(h.held, held)
					kind, stands, firing, since, last := outcome(h, rule.For, rule.Keep)
					h.kinds = append(h.kinds, kind)
					found[kind]++
					if kind != nothing {
						want = append(want, notice(kind, rule.Name, set, at, v))
					}
					if stands {
						standing = append(standing, api.Standing{Rule: rule.Name, Set: set, Firing: firing, Since: since, Last: last})
					}
				}
			}
			r.Shuffle(len(l), func(i, j int) { l[i], l[j] = l[j], l[i] })
			for i := range want {
				if math.IsNaN(want[i].V) {
					want[i].V = math.Float64frombits(0x7ff8000000000001)
				}
			}
			steps(t, x, at, l, want...)
			stands(t, x, standing...)
			for _, rule := range rules { // rules know nothing of one another, values in another order are the same
				r.Shuffle(len(l), func(i, j int) { l[i], l[j] = l[j], l[i] })
				own := slices.DeleteFunc(slices.Clone(want), func(x api.Notice) bool { return x.Rule != rule.Name })
				spoken := slices.DeleteFunc(slices.Clone(l), func(v api.Value) bool { // values that it does not speak of are none
					is, _ := labels.Matches(v.Set, rule.Want)
					return !is && r.Intn(2) == 0
				})
				steps(t, alone[rule.Name], at, spoken, own...)
			}
		}
		for _, rule := range rules {
			for _, set := range pool {
				h := histories[rule.Name+" "+text(set)]
				inTurns(t, slices.DeleteFunc(slices.Clone(h.kinds), func(k api.NoticeKind) bool { return k == nothing }), rule.For)
				noFalseAlarm(t, h, rule.For, rule.Keep)
			}
		}
	}
	for _, kind := range []api.NoticeKind{pends, drops, fires, resolves} {
		if found[kind] < 1000 {
			t.Error("the test asks too little:", found)
		}
	}
}

func text(set []api.Label) string {
	s, _ := labels.Print(set)
	return s
}

func TestStepOfTheMost(t *testing.T) { // as many rules and values as may be
	var rules []api.Rule
	for i := range api.MaxRules {
		rules = append(rules, timed(rule("r"+strconv.Itoa(1000+i), api.RuleAbove, float64(i)), int64(i%2), 1))
	}
	x := made(t, rules...)
	var l []api.Value
	for i := range api.MaxSeries {
		l = append(l, value(float64(api.MaxRules), of("i", strconv.Itoa(10000+i), "long", strings.Repeat("v", 100))))
	}
	for at, want := range []int{api.MaxRules * api.MaxSeries, api.MaxRules / 2 * api.MaxSeries, 0} {
		got, why := x.Step(int64(at)*sec, l)
		if len(got) != want || why != api.OK {
			t.Errorf("step %d: %d notices, error %d, want %d", at, len(got), why, want)
		}
	}
	if n := len(x.Standing()); n != api.MaxRules*api.MaxSeries {
		t.Error("so many stand:", n)
	}
	if got, why := x.Step(9*sec, nil); len(got) != api.MaxRules*api.MaxSeries || why != api.OK {
		t.Errorf("at the end: %d notices, error %d", len(got), why)
	}
	stands(t, x)
}
