package alarm_test

import (
	"math"
	"slices"
	"strconv"
	"strings"
	"testing"

	"abacus/alarm"
	"abacus/api"
)

var allOps = []api.RuleOp{api.RuleAbove, api.RuleLeast, api.RuleBelow, api.RuleMost, api.RuleIs, api.RuleNot}

func TestHolds(t *testing.T) { // 26.1, and the words, example 3
	for _, x := range []struct {
		v, bound float64
		holds    string // the signs
	}{
		{1, 2, "< <= !="}, {2, 2, ">= <= =="}, {3, 2, "> >= !="},
		{0, minus, ">= <= =="}, {minus, 0, ">= <= =="}, {minus, minus, ">= <= =="},
		{math.SmallestNonzeroFloat64, minus, "> >= !="}, {-math.SmallestNonzeroFloat64, 0, "< <= !="},
		{inf, inf, ">= <= =="}, {-inf, -inf, ">= <= =="}, {-inf, inf, "< <= !="}, {math.MaxFloat64, inf, "< <= !="}, {inf, math.MaxFloat64, "> >= !="}, {5, -inf, "> >= !="},
		{nan, 2, ""}, {nan, 0, ""}, {nan, inf, ""}, {nan, nan, ""}, {-nan, 1, ""},
		{2, nan, "!="}, // a rule that is not right: a number is not the same
		{0.30000000000000004, 0.3, "> >= !="},
	} {
		for i, sign := range []string{">", ">=", "<", "<=", "==", "!="} {
			want := slices.Contains(strings.Fields(x.holds), sign)
			if got := alarm.Holds(rule("hot", allOps[i], x.bound), x.v); got != want {
				t.Errorf("Holds(%s %v, %v): %v", sign, x.bound, x.v, got)
			}
		}
	}
	for _, op := range []api.RuleOp{api.RuleNone, api.RuleOps, api.RuleOps + 1, 255} {
		for _, v := range []float64{0, 1, inf, nan} {
			if alarm.Holds(rule("hot", op, 0), v) {
				t.Errorf("Holds of the Op %d", op)
			}
		}
	}
	if !alarm.Holds(api.Rule{Op: api.RuleAbove, For: -1, Want: []api.Match{{}}}, 1) { // of the others nothing is asked
		t.Error("Holds asks more than the Op")
	}
}

func TestCheck(t *testing.T) { // 26.1, and the words
	hot := timed(rule("hot", api.RuleAbove, 5, is("a", "1")), 10, 5)
	checks(t, "none", nil, api.OK, 0)
	checks(t, "none", []api.Rule{}, api.OK, 0)
	checks(t, "one", []api.Rule{hot}, api.OK, 0)
	full := strings.Repeat("v", api.MaxValue)
	for what, r := range map[string]api.Rule{
		"a long name":          rule(strings.Repeat("n", api.MaxName), api.RuleAbove, 5),
		"no matchers":          rule("hot", api.RuleAbove, 5),
		"all matchers":         rule("hot", api.RuleAbove, 5, slices.Repeat([]api.Match{is("a", full)}, api.MaxLabels)...),
		"a pattern":            rule("hot", api.RuleAbove, 5, api.Match{Kind: api.MatchGlob, Name: "a", Value: "*"}, api.Match{Kind: api.MatchElse, Name: "a"}),
		"an infinity":          rule("hot", api.RuleAbove, inf),
		"the other infinity":   rule("hot", api.RuleAbove, -inf),
		"-0":                   rule("hot", api.RuleAbove, minus),
		"the longest spans":    {Name: "hot", Op: api.RuleNot, For: api.MaxAt, Keep: api.MaxAt},
		"spans of 0":           {Name: "hot", Op: api.RuleIs},
		"a word of the text":   rule("for", api.RuleAbove, 5),
		"the name of a kind":   rule("__name__", api.RuleAbove, 5),
		"a name like another":  rule("Hot", api.RuleAbove, 5),
		"a matcher that wants": rule("hot2", api.RuleMost, math.MaxFloat64, is("a", "")),
	} {
		checks(t, what, []api.Rule{r}, api.OK, 0)
	}
	wrong := map[string]func(*api.Rule){
		"no name":                 func(r *api.Rule) { r.Name = "" },
		"a name that is none":     func(r *api.Rule) { r.Name = "1a" },
		"a name with a blank":     func(r *api.Rule) { r.Name = "a b" },
		"a name that is too long": func(r *api.Rule) { r.Name = strings.Repeat("n", api.MaxName+1) },
		"a wrong matcher":         func(r *api.Rule) { r.Want = []api.Match{{}} },
		"a matcher's kind":        func(r *api.Rule) { r.Want = []api.Match{is("a", "1"), {Kind: api.MatchCount, Name: "a"}} },
		"a matcher's name":        func(r *api.Rule) { r.Want = []api.Match{is("1", "1")} },
		"a matcher's value":       func(r *api.Rule) { r.Want = []api.Match{is("a", "\xff")} },
		"too many matchers":       func(r *api.Rule) { r.Want = slices.Repeat([]api.Match{is("a", "1")}, api.MaxLabels+1) },
		"no Op":                   func(r *api.Rule) { r.Op = api.RuleNone },
		"an Op that is none":      func(r *api.Rule) { r.Op = api.RuleOps },
		"the last Op":             func(r *api.Rule) { r.Op = 255 },
		"a Bound that is none":    func(r *api.Rule) { r.Bound = nan },
		"For below 0":             func(r *api.Rule) { r.For = -1 },
		"For above MaxAt":         func(r *api.Rule) { r.For = api.MaxAt + 1 },
		"Keep below 0":            func(r *api.Rule) { r.Keep = math.MinInt64 },
		"Keep above MaxAt":        func(r *api.Rule) { r.Keep = math.MaxInt64 },
		"a name that stands":      func(r *api.Rule) { r.Name = "first" },
	}
	first, second := rule("first", api.RuleAbove, 1), rule("second", api.RuleAbove, 1)
	for what, change := range wrong {
		r := hot
		change(&r)
		checks(t, what, []api.Rule{first, r}, api.ErrRule, 1)
		checks(t, what, []api.Rule{first, second, r, {}}, api.ErrRule, 2)
		checks(t, what, []api.Rule{{}, first, r}, api.ErrRule, 0)
		if r.Name != "first" {
			checks(t, what, []api.Rule{r}, api.ErrRule, 0)
		}
	}
	checks(t, "a name twice", []api.Rule{first, second, first, second}, api.ErrRule, 2)
}

// numbered are so many right rules.
func numbered(n int) []api.Rule {
	var l []api.Rule
	for i := range n {
		l = append(l, rule("r"+strconv.Itoa(i), allOps[i%len(allOps)], float64(i)))
	}
	return l
}

func TestManyRules(t *testing.T) { // 26.1, 26.2
	most, more := numbered(api.MaxRules), numbered(api.MaxRules+1)
	checks(t, "the most", most, api.OK, 0)
	checks(t, "one more", more, api.ErrMany, api.MaxRules)
	checks(t, "far more", numbered(5*api.MaxRules), api.ErrMany, api.MaxRules)
	checks(t, "one more, that is wrong", append(slices.Clip(most), api.Rule{}), api.ErrRule, api.MaxRules)
	checks(t, "one more, whose name stands", append(slices.Clip(most), most[7]), api.ErrRule, api.MaxRules)
	checks(t, "far more, the last one wrong", append(numbered(3*api.MaxRules), api.Rule{}), api.ErrRule, 3*api.MaxRules)
	checks(t, "one more, a wrong one ahead", append([]api.Rule{most[0], most[0]}, more[1:]...), api.ErrRule, 1)
	text, why := alarm.Print(most)
	if why != api.OK {
		t.Fatal("Print:", why)
	}
	parses(t, text, most...)
	refuses(t, text+"x {} > 1\n", api.MaxRules+1, 6)
	refuses(t, "\n#\n"+text+"#\nx {} > 1\n", api.MaxRules+4, 6)
	refuses(t, text+"x {} > 1 for\n", api.MaxRules+1, 5)
	refuses(t, text+"x {} > 1\ny {}", api.MaxRules+1, 6)
	parses(t, text+"\n# x {} > 1\n", most...)
}

func TestTexts(t *testing.T) { // 26.1, 26.5, and the words
	writes(t, "")
	writes(t, "hot {} > 5\n", rule("hot", api.RuleAbove, 5))
	writes(t, "hot {} > 5 for 10s keep 5s\n", timed(rule("hot", api.RuleAbove, 5), 10, 5))
	writes(t, "hot {} > 5 for 10s\n", timed(rule("hot", api.RuleAbove, 5), 10, 0))
	writes(t, "hot {} > 5 keep 5s\n", timed(rule("hot", api.RuleAbove, 5), 0, 5))
	for i, sign := range []string{">", ">=", "<", "<=", "==", "!="} {
		writes(t, "hot {a=\"x\"} "+sign+" -0.5\n", rule("hot", allOps[i], -0.5, is("a", "x")))
	}
	writes(t, `hot {a="x y",b!="} > \"5",c=~"\n*",d!~"\\"} <= 1e+06 for 1h30m1ns keep 1us`+"\n", api.Rule{
		Name: "hot", Op: api.RuleMost, Bound: 1e6, For: 5400*sec + 1, Keep: 1000,
		Want: []api.Match{is("a", "x y"), {Kind: api.MatchNot, Name: "b", Value: `} > "5`}, {Kind: api.MatchGlob, Name: "c", Value: "\n*"}, {Kind: api.MatchElse, Name: "d", Value: `\`}},
	})
	writes(t, "for {for=\"keep\"} == 0 for 1s keep 1s\n", timed(rule("for", api.RuleIs, 0, is("for", "keep")), 1, 1))
	writes(t, "a {} > +Inf\nb {} < -Inf\nc {} == -0\nd {} != 5e-324\ne {} >= 0.1\n", rule("a", api.RuleAbove, inf), rule("b", api.RuleBelow, -inf), rule("c", api.RuleIs, minus), rule("d", api.RuleNot, math.SmallestNonzeroFloat64), rule("e", api.RuleLeast, 0.1))
	writes(t, "hot {} > 5 for 640511h56m49s213ms693us952ns keep 1ns\n", api.Rule{Name: "hot", Op: api.RuleAbove, Bound: 5, For: api.MaxAt, Keep: 1})
	writes(t, "hot {a=\"\t\r\x00é\"} > 5\n", rule("hot", api.RuleAbove, 5, is("a", "\t\r\x00é")))
}
