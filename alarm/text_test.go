package alarm_test

import (
	"math/rand"
	"regexp"
	"strconv"
	"strings"
	"testing"
	"unsafe"

	"abacus/alarm"
	"abacus/api"
	"abacus/labels"
	"abacus/times"
)

func TestExamplesOfTexts(t *testing.T) { // example 2
	parses(t, "hot {a=\"x\"} > 5", rule("hot", api.RuleAbove, 5, is("a", "x")))
	refuses(t, "hot {} > five", 1, 4)
	refuses(t, "hot {} => 5", 1, 3)
	refuses(t, "hot > 5", 1, 1)
	refuses(t, "hot a > 5", 1, 2)
	refuses(t, "hot {} > 5 keep 1s for 1s", 1, 5)
	refuses(t, "hot {} > 5 for 0s", 1, 5)
	refuses(t, "a {} > 1\na {} > 2", 2, 6)
	parses(t, "# x\n")
}

func TestLines(t *testing.T) { // 26.2: lines, and what each breaks
	hot, cold := rule("hot", api.RuleAbove, 5), rule("cold", api.RuleBelow, 5)
	parses(t, "")
	parses(t, "\n")
	parses(t, "\n\n\n")
	parses(t, "#")
	parses(t, "#\n#\xff\n\n# hot {} > 5")
	parses(t, "hot {} > 5", hot)
	parses(t, "hot {} > 5\n", hot)
	parses(t, "\nhot {} > 5\n\n", hot)
	parses(t, "hot {} > 5\ncold {} < 5", hot, cold)
	parses(t, "#hot {} > 5\ncold {} < 5\n# \nhot {} > 5\n#", cold, hot)
	parses(t, "hot {} > 5\n#hot {} > 5\n", hot)
	for s, rule := range map[string]int{
		" ": 1, "  ": 1, "   ": 1, "    ": 1, "hot": 1, "hot {}": 1, "hot {} >": 1, "hot {} > ": 4, "hot {}  ": 3, "hot   ": 2, "hot  {}": 1, " #": 1, "1 {} > 5": 1, " hot {} > 5": 1, "\thot {} > 5": 1, "h-t {} > 5": 1, "é {} > 5": 1, "hot{} > 5": 1, "hot{} > 5 for": 1, strings.Repeat("n", api.MaxName+1) + " {} > 5": 1, "\r": 1,
		"hot  {} > 5": 2, "hot { } > 5": 2, "hot {a} > 5": 2, "hot {a=x} > 5": 2, "hot {a=\"x\", b=\"y\"} > 5": 2, "hot {a=\"x} > 5": 2, "hot {a=\"x\\\"} > 5": 2, "hot {}> 5 x": 2, "hot {}} > 5": 2, "hot {}{} > 5": 2, "hot {a=\"\\q\"} > 5": 2, "hot {a=\"\xff\"} > 5": 2, "hot {1=\"\"} > 5": 2, "hot { > 5": 2, "hot } > 5": 2, "hot {a=\"x y z\"}": 2, "hot \t{} > 5": 2, "hot x{} > 5": 2, "hot {}\t> 5 x": 2,
		"hot {}  > 5": 3, "hot {} = 5": 3, "hot {} >> 5": 3, "hot {} <> 5": 3, "hot {} ! 5": 3, "hot {} > = 5": 4, "hot {} >5 x": 3, "hot {} 5 >": 3, "hot {} ≥ 5": 3, "hot {} >=5 for 5s": 3, "hot {a=\"x y\"} 5": 3, "hot {a=\"x y\"} ": 3,
		"hot {} >  5": 4, "hot {} > x": 4, "hot {} > NaN": 4, "hot {} > nan": 4, "hot {} > 0x10": 4, "hot {} > 1_0": 4, "hot {} > 5\r": 4, "hot {} > 5,": 4, "hot {} > \t5": 4, "hot {a=\"x y\"} >": 4, "hot {} > for 5s": 4, "hot {} > " + strings.Repeat("0", 65): 4,
		"hot {} > 5 ": 5, "hot {} > 5  for 5s": 5, "hot {} > 5 for": 5, "hot {} > 5 for ": 5, "hot {} > 5 for  5s": 5, "hot {} > 5 for 5": 5, "hot {} > 5 for 5s ": 5, "hot {} > 5 for 5s keep": 5, "hot {} > 5 for 5s keep ": 5, "hot {} > 5 for 5s keep 0s": 5, "hot {} > 5 for 0s keep 5s": 5, "hot {} > 5 keep 0s": 5, "hot {} > 5 keep": 5, "hot {} > 5 keep 5s ": 5, "hot {} > 5 for 5s for 5s": 5, "hot {} > 5 keep 5s keep 5s": 5, "hot {} > 5 for 5s keep 5s x": 5, "hot {} > 5 for 5s keep 5s for 5s": 5, "hot {} > 5 x": 5, "hot {} > 5 5s": 5, "hot {} > 5 For 5s": 5, "hot {} > 5 for 1s1m": 5, "hot {} > 5 for 2305843009213693953ns": 5, "hot {} > 5 for -5s": 5, "hot {} > 5 # x": 5, "hot {} > 5 for 5s\t": 5, "hot {} > 5 for 5s\r": 5, "hot {} > 5 for 05s": 5, "hot {} > 5 fork 5s": 5, "hot {} > 5 keep 5s for": 5,
	} {
		refuses(t, s, 1, rule)
		refuses(t, s+"\n", 1, rule)
		refuses(t, "cold {} < 5\n\n# \n"+s+"\nhot {} > 5\nx", 4, rule)
	}
	refuses(t, "hot {} > 5\nhot {} > 5", 2, 6)
	refuses(t, "hot {} > 5\n\n#\ncold {} > 5\nhot {a=\"1\"} < 6 for 5s\nx", 5, 6)
	refuses(t, "hot {} > 5\nhot {} > five", 2, 4) // the least rule
	refuses(t, "hot {} > 5\nhot {} > 5 x", 2, 5)
	refuses(t, "x\nhot {} > 5\nhot {} > 5", 1, 1) // the least line
	for s, want := range map[string]float64{"5": 5, "+5": 5, "-5": -5, "1e3": 1000, "+Inf": inf, "inf": inf, "-Infinity": -inf, "1e999": inf, "-1e999": -inf, "-0": minus, ".5": 0.5, "00": 0, strings.Repeat("0", 64): 0} {
		parses(t, "hot {} > "+s, rule("hot", api.RuleAbove, want))
		parses(t, "hot {} > "+s+" for 1s", timed(rule("hot", api.RuleAbove, want), 1, 0))
	}
	parses(t, "hot {} > 5 for 60s keep 120s", timed(hot, 60, 120)) // as times reads them
	parses(t, "hot {a=\"} > 5 for 5s\"} > 5", rule("hot", api.RuleAbove, 5, is("a", "} > 5 for 5s")))
	parses(t, "hot {a=\"\\\"} \\\\\"} > 5", rule("hot", api.RuleAbove, 5, is("a", "\"} \\")))
	parses(t, "hot {__name__=\"a\",a=\"\",a=\"\"} > 5", rule("hot", api.RuleAbove, 5, is("__name__", "a"), is("a", ""), is("a", "")))
	set := func(n int) string { return "{" + strings.TrimSuffix(strings.Repeat("a=\"\",", n), ",") + "}" }
	parses(t, "hot "+set(api.MaxLabels)+" > 5", rule("hot", api.RuleAbove, 5, timesOver(api.MaxLabels, is("a", ""))...))
	refuses(t, "hot "+set(api.MaxLabels+1)+" > 5", 1, 2)
	refuses(t, "hot {} > 5"+strings.Repeat(" ", 1<<22), 1, 5)
	refuses(t, strings.Repeat(" ", 1<<22), 1, 1)
	parses(t, strings.Repeat("\n", 1<<20)+"hot {} > 5", hot)
	refuses(t, strings.Repeat("#\n", 1<<20)+"x", 1<<20+1, 1)
}

func timesOver(n int, m api.Match) []api.Match {
	var l []api.Match
	for range n {
		l = append(l, m)
	}
	return l
}

var (
	forms = []*regexp.Regexp{ // a line breaks the rule of the first that it does not have
		regexp.MustCompile(`(?s)^[A-Za-z_][A-Za-z_0-9]{0,63} [^ ]* [^ ]* `),
		regexp.MustCompile(`(?s)^[^ ]* (\{(?:[^"}]|"(?:[^"\\]|\\.)*")*\}) `),
		regexp.MustCompile(`(?s)^[^ ]* \{(?:[^"}]|"(?:[^"\\]|\\.)*")*\} (>=|<=|==|!=|>|<)( |$)`),
		regexp.MustCompile(`(?s)^[^ ]* \{(?:[^"}]|"(?:[^"\\]|\\.)*")*\} [^ ]+ ([^ ]+)`),
		regexp.MustCompile(`(?s)^[^ ]* \{(?:[^"}]|"(?:[^"\\]|\\.)*")*\} [^ ]+ [^ ]+(?: (for) ([^ ]*))?(?: (keep) ([^ ]*))?$`),
	}
	floatForm = regexp.MustCompile(`^[0-9eEinfINFaAyYtT+.-]{1,64}$`)
)

// read is what alarm.Parse is to answer, by expressions.
func read(s string) ([]api.Rule, api.Errno, api.Fault) {
	var l []api.Rule
	names := map[string]bool{}
	lines := strings.Split(s, "\n")
	for n, line := range lines {
		if line == "" || line[0] == '#' {
			continue
		}
		r, broken := readRule(line)
		if broken == 0 && (names[r.Name] || len(l) == api.MaxRules) {
			broken = 6
		}
		if broken != 0 {
			return nil, api.ErrRule, api.Fault{Line: n + 1, Rule: broken}
		}
		names[r.Name] = true
		l = append(l, r)
	}
	return l, api.OK, api.Fault{}
}

func readRule(line string) (api.Rule, int) {
	var found [][]string
	for i, form := range forms {
		parts := form.FindStringSubmatch(line)
		if parts == nil {
			return api.Rule{}, i + 1
		}
		found = append(found, parts)
		switch i {
		case 1:
			if _, why, _ := labels.ParseMatch(parts[1]); why != api.OK {
				return api.Rule{}, 2
			}
		case 3:
			if x, err := strconv.ParseFloat(parts[1], 64); !floatForm.MatchString(parts[1]) || err != nil && !strings.Contains(err.Error(), "range") || x != x {
				return api.Rule{}, 4
			}
		}
	}
	want, _, _ := labels.ParseMatch(found[1][1])
	ops := map[string]api.RuleOp{">": api.RuleAbove, ">=": api.RuleLeast, "<": api.RuleBelow, "<=": api.RuleMost, "==": api.RuleIs, "!=": api.RuleNot}
	bound, _ := strconv.ParseFloat(found[3][1], 64)
	r := api.Rule{Name: line[:strings.Index(line, " ")], Want: want, Op: ops[found[2][1]], Bound: bound}
	for _, x := range []struct {
		word, text string
		span       *int64
	}{{found[4][1], found[4][2], &r.For}, {found[4][3], found[4][4], &r.Keep}} {
		d, why, _ := times.ParseSpan(x.text)
		if x.word != "" && (why != api.OK || d == 0) {
			return api.Rule{}, 5
		}
		*x.span = d
	}
	return r, 0
}

func holds(t *testing.T, s string) {
	t.Helper()
	l, why, at := alarm.Parse(s)
	want, wrong, place := read(s)
	if !sameRules(l, want) || why != wrong || at != place || why != api.OK && l != nil {
		t.Errorf("Parse(%q): %v, error %d at %v, want %v, error %d at %v", s, l, why, at, want, wrong, place)
	}
	if why != api.OK {
		return
	}
	text, e := alarm.Print(l)
	if again, _, _ := alarm.Parse(text); e != api.OK || !sameRules(again, l) { // 26.5
		t.Errorf("%q is written as %q, error %d, and read as %v, was %v", s, text, e, again, l)
	}
}

var pieces = []string{
	"hot", "cold", "1", "5", "-0", "NaN", "inf", "{}", `{a="x"}`, `{a="x y"}`, `{a="} > 5 for"}`, `{a="\""}`, "{", "}", `{a}`,
	">", ">=", "<", "<=", "==", "!=", "=", "for", "keep", "5s", "0s", "1h1ns", "5", " ", " ", " ", " ", "\n", "\n", "#", "x", "\"", "\\", "\xff", "\t",
	"hot {} > 5", "cold {} < 5\n", " for 5s", " keep 1s", "hot {", "a {} ", " for 1s keep 2s\n",
}

func TestTextsOfAny(t *testing.T) { // 26.2, P1
	r := rand.New(rand.NewSource(26))
	taken := 0
	for n := 0; n < 150000 && !t.Failed(); n++ {
		var s strings.Builder
		if r.Intn(2) == 0 { // in the form of a rule
			for i, l := range [][]string{{"hot", "cold", "a1", "1"}, {"{}", `{a="x"}`, `{a="x y",b!="}"}`, "{a}"}, {">", ">=", "!=", "="}, {"5", "-0", "x", "1e999"}, {"for 5s", "keep 1s", "for 1s keep 2s", ""}} {
				if i > 0 {
					s.WriteString(" ")
				}
				s.WriteString(l[r.Intn(len(l))])
				if r.Intn(20) == 0 {
					s.WriteString(pieces[r.Intn(len(pieces))])
				}
			}
			if r.Intn(2) == 0 {
				s.WriteString("\n")
			}
		}
		for range r.Intn(8) {
			s.WriteString(pieces[r.Intn(len(pieces))])
		}
		holds(t, s.String())
		if _, why, _ := alarm.Parse(s.String()); why == api.OK {
			taken++
		}
	}
	if taken < 2000 {
		t.Error("the test asks too little:", taken)
	}
}

// someRule is any right rule.
func someRule(r *rand.Rand, name string) api.Rule {
	x := rule(name, allOps[r.Intn(6)], []float64{0, minus, 1, -2.5, 1e6, 1e-7, inf, -inf, r.NormFloat64()}[r.Intn(9)])
	for range r.Intn(4) {
		x.Want = append(x.Want, api.Match{Kind: api.MatchKind(1 + r.Intn(4)), Name: []string{"a", "b", "for"}[r.Intn(3)], Value: []string{"", "x", "x y", "}", "\"", "\\", "\n", "é", " for 5s", "*"}[r.Intn(10)]})
	}
	spans := []int64{0, 0, 1, sec, 3600*sec + 1, api.MaxAt, r.Int63n(api.MaxAt)}
	x.For, x.Keep = spans[r.Intn(7)], spans[r.Intn(7)]
	return x
}

func TestThereAndBack(t *testing.T) { // 26.5
	r := rand.New(rand.NewSource(5))
	for n := 0; n < 3000 && !t.Failed(); n++ {
		var l []api.Rule
		for i := range r.Intn(6) {
			l = append(l, someRule(r, "r"+strconv.Itoa(i)))
		}
		text, why := alarm.Print(l)
		if why != api.OK || strings.Count(text, "\n") != len(l) {
			t.Fatalf("Print(%v): %q, error %d", l, text, why)
		}
		parses(t, text, l...)
		holds(t, text)
		if text == "" {
			continue
		}
		at := r.Intn(len(text))
		holds(t, text[:at])
		holds(t, text[:at]+text[at+1:])
		holds(t, text[:at]+pieces[r.Intn(len(pieces))]+text[at:])
		holds(t, text[:at]+string([]byte{byte(r.Intn(256))})+text[at+1:])
	}
}

func TestReadMemory(t *testing.T) { // 26.4
	s := strings.Clone("hot {aa=\"bb\"} > 5\ncold {aa=\"bb\"} > 5")
	from := uintptr(unsafe.Pointer(unsafe.StringData(s)))
	l, _, _ := alarm.Parse(s)
	again, _, _ := alarm.Parse(s)
	for _, r := range l {
		for _, x := range []string{r.Name, r.Want[0].Name, r.Want[0].Value} {
			if at := uintptr(unsafe.Pointer(unsafe.StringData(x))); at >= from && at < from+uintptr(len(s)) {
				t.Errorf("%q has the memory of the text", x)
			}
		}
	}
	for i := range l {
		clear(l[i].Want[:cap(l[i].Want)])
	}
	clear(l[:cap(l)])
	parses(t, s, again...)
	kept := []api.Rule{rule("hot", api.RuleAbove, 5, is("aa", "bb"))}
	first, _ := alarm.Print(kept)
	alarm.Check(kept)
	if second, _ := alarm.Print(kept); first != second || !sameRules(kept, []api.Rule{rule("hot", api.RuleAbove, 5, is("aa", "bb"))}) {
		t.Errorf("%q, then %q; what was handed in: %v", first, second, kept)
	}
}
