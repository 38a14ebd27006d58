package expo_test

import (
	"math"
	"math/rand"
	"regexp"
	"slices"
	"strconv"
	"strings"
	"testing"
	"unicode/utf8"

	"abacus/api"
	"abacus/expo"
	"abacus/labels"
)

func TestParse(t *testing.T) { // 15.3, examples 2, 7 of the whole
	parses(t, "")
	parses(t, "\n\n \n\t\n")
	parses(t, "a 1\nb{} 2 3\n", family("a", api.MetricUntyped, sample("a", 1)), family("b", api.MetricUntyped, timed(sample("b", 2), 3)))
	parses(t, "# TYPE a counter\na{b=\"c\"} 3 5\n", family("a", api.MetricCounter, timed(sample("a", 3, "b", "c"), 5)))
	h := family("h", api.MetricHistogram, sample("h_bucket", 1, "le", "+Inf"))
	parses(t, "# TYPE h histogram\nh_bucket{le=\"+Inf\"} 1\n", h)
	breaks(t, h, 9)
	for word, kind := range map[string]api.MetricKind{"counter": api.MetricCounter, "gauge": api.MetricGauge, "histogram": api.MetricHistogram, "summary": api.MetricSummary, "untyped": api.MetricUntyped} {
		parses(t, "# TYPE a "+word, family("a", kind))
	}
	parses(t, `a{b="x",a="y"} 1`, family("a", api.MetricUntyped, sample("a", 1, "a", "y", "b", "x")))
	parses(t, "a 1\nb 2\na{x=\"y\"} 3", family("a", api.MetricUntyped, sample("a", 1), sample("a", 3, "x", "y")), family("b", api.MetricUntyped, sample("b", 2)))
	parses(t, "a NaN\nb +Inf\nc -inf 0", family("a", api.MetricUntyped, sample("a", math.NaN())), family("b", api.MetricUntyped, sample("b", math.Inf(1))), family("c", api.MetricUntyped, timed(sample("c", math.Inf(-1)), 0)))
	parses(t, "a 1e999 9223372036854775807", family("a", api.MetricUntyped, timed(sample("a", math.Inf(1)), math.MaxInt64)))
}

func TestParseHelp(t *testing.T) { // 15.3, rules 1, 5
	told := func(help string) api.Family { return helped(family("a", api.MetricUntyped), help) }
	for s, want := range map[string]string{
		"# HELP a x": "x", "# HELP a": "", "# HELP a ": "", "# HELP a \t x  y \t": "x  y", "#\tHELP\ta\tx": "x", " \t#  \t HELP \t a \tx": "x",
		`# HELP a \\ \n`: "\\ \n", `# HELP a \\n`: `\n`, `# HELP a \\\n`: "\\\n", `# HELP a \n \n`: "\n \n", `# HELP a x\n `: "x\n",
		"# HELP a # HELP a": "# HELP a", "# HELP a \"{}\"": "\"{}\"", "# HELP a é\r": "é\r", "# HELP a \v": "\v", "# HELP a 1 2": "1 2",
		"# HELP a " + strings.Repeat("x", 256): strings.Repeat("x", 256), "# HELP a " + strings.Repeat(`\n`, 256): strings.Repeat("\n", 256), "# HELP a " + strings.Repeat("é", 128): strings.Repeat("é", 128),
	} {
		parses(t, s, told(want))
		parses(t, "\n"+s+"\n", told(want))
	}
	for _, s := range []string{
		"# HELP", "# HELP ", "# \tHELP\t", "# HELP 1", "# HELP a-b", "# HELP é x", "# HELP a{} x", "# HELP \xff", "# HELP " + strings.Repeat("n", 65),
		`# HELP a \`, `# HELP a x\ `, `# HELP a \x`, `# HELP a \"`, `# HELP a \N`, `# HELP a \\\`, `# HELP a \ n`, "# HELP a \\\xff", `# HELP a \r`,
		"# HELP a \xff", "# HELP a x\xc3", "# HELP a \xed\xa0\x80", "# HELP a \xc3\\n\xa9",
		"# HELP a " + strings.Repeat("x", 257), "# HELP a " + strings.Repeat(`\n`, 257), "# HELP a " + strings.Repeat("é", 128) + "x", "# HELP a " + strings.Repeat(`\\`, 256) + "x",
	} {
		refuses(t, s, 1, 1)
		refuses(t, "\n#\n a 1 \n"+s+"\n1", 4, 1)
	}
	refuses(t, "# HELP a x\n# HELP a y", 2, 5)
	refuses(t, "# HELP a\n# HELP a", 2, 5)
	refuses(t, "# HELP a\n# TYPE a gauge\na 1\n\n# HELP a x", 5, 5)
	refuses(t, "# HELP a\n# HELP a \\x", 2, 1)
	both := helped(family("a", api.MetricGauge, sample("a", 1)), "x")
	parses(t, "# HELP a x\n# TYPE a gauge\na 1", both)
	parses(t, "# TYPE a gauge\n# HELP a x\na 1", both)
	parses(t, "# TYPE a gauge\na 1\n# HELP a x", both)
	parses(t, "a 1\n# HELP a x\n# HELP b x", helped(family("a", api.MetricUntyped, sample("a", 1)), "x"), helped(family("b", api.MetricUntyped), "x"))
}

func TestParseType(t *testing.T) { // 15.3, rules 1, 5, example 3
	for _, s := range []string{
		"# TYPE a loud", "# TYPE", "# TYPE ", "# TYPE a", "# TYPE a ", "# TYPE 1 gauge", "# TYPE gauge", "# TYPE a Gauge", "# TYPE a GAUGE", "# TYPE a gauge x", "# TYPE a gauge gauge", "# TYPE a gauge #", "# TYPE a b gauge",
		"# TYPE a{} gauge", "# TYPE a-b gauge", "# TYPE a gauges", "# TYPE a gaug", "# TYPE a unknown", "# TYPE a 2", "# TYPE a none", "# TYPE \xff gauge", "# TYPE a gauge\r", "# TYPE " + strings.Repeat("n", 65) + " gauge",
	} {
		refuses(t, s, 1, 1)
		refuses(t, "a 1\n"+s, 2, 1)
	}
	parses(t, " #\t\tTYPE \t a\t gauge \t", family("a", api.MetricGauge))
	parses(t, "# TYPE "+strings.Repeat("n", 64)+" gauge", family(strings.Repeat("n", 64), api.MetricGauge))
	refuses(t, "a 1\n# TYPE a gauge", 2, 5)
	refuses(t, "# TYPE a gauge\n# TYPE a gauge", 2, 5)
	refuses(t, "# TYPE a untyped\n# TYPE a gauge", 2, 5)
	refuses(t, "# TYPE a gauge\na 1\n# TYPE a gauge", 3, 5)
	refuses(t, "# TYPE a summary\na_sum 1\n# TYPE a gauge", 3, 5)
	parses(t, "# TYPE a summary\na_sum 1\n# TYPE a_sum gauge", family("a", api.MetricSummary, sample("a_sum", 1)), family("a_sum", api.MetricGauge))
	parses(t, "a_sum 1\n# TYPE a summary\na_sum{b=\"c\"} 1", family("a_sum", api.MetricUntyped, sample("a_sum", 1)), family("a", api.MetricSummary, sample("a_sum", 1, "b", "c")))
}

func TestParseRemarks(t *testing.T) { // 15.3, 15.8
	for _, s := range []string{
		"#", "##", "# ", "# x", "#HELP a \\x", "#HELP", "#TYPE a loud", "# HELPx", "# HELP:", "# help", "# Type a loud", "# TYPES a loud", "# # TYPE a loud", "#\vTYPE a loud", "# \xff", "# EOF", "# HELP\va", "#\u00a0TYPE", "# UNIT a b", "# TYPE\r", "#a 1", "# a 1",
	} {
		parses(t, s)
		parses(t, " \t"+s+"\t ")
		parses(t, s+"\na 1\n"+s, family("a", api.MetricUntyped, sample("a", 1)))
	}
}

func TestParseSample(t *testing.T) { // 15.3, rules 2 to 4, example 3
	one := func(words ...string) api.Family { return family("a", api.MetricUntyped, sample("a", 2, words...)) }
	for _, s := range []string{"a 2", "a{} 2", "a{}2", " a \t{}\t 2 ", "a\t2", "a {}2", "a 2.0", "a +2", "\ta 0.2e1\t"} {
		parses(t, s, one())
	}
	for _, s := range []string{`a{b="c"} 2`, `a{b="c"}2`, `a  {b="c"}  2  `} {
		parses(t, s, one("b", "c"))
	}
	parses(t, `a{b="}"} 2`, one("b", "}"))
	parses(t, `a{b="\"}"} 2`, one("b", `"}`))
	parses(t, `a{b="\\"} 2`, one("b", `\`))
	parses(t, `a{b="\\\"}{"} 2`, one("b", `\"}{`))
	parses(t, `a{b=" # ",c="\n"}2`, one("b", " # ", "c", "\n"))
	parses(t, `a{b="é",c="}"}2`, one("b", "é", "c", "}"))
	for rule, l := range map[int][]string{
		2: {
			"9 1", "a{b=1} 2", "{} 1", "{", "}", "a{", "a {", `a{b="c"`, `a{b="c} 2`, `a{b="c\"} 2`, "a{,} 1", `a{b="c",} 1`, `a{b=""} 1`, `a{b="c",b="d"} 1`, `a{b="\q"} 1`, `a{1="c"} 1`, "a{b=\"\xff\"} 1", `a{b = "c"} 1`, `a{ b="c"} 1`, `a{b="c" } 1`, `a{b!="c"} 1`, `a{b=~"c"} 1`, `a{ } 1`,
			`a"{} 1`, "a-b 1", "a.b 1", "a:b 1", "é 1", "\xff 1", "a,b 1", "a\x00 1", "a\r 1", "-1", "1", "\"a\" 1", "a} 1", "a}{} 1", strings.Repeat("n", 65) + " 1", strings.Repeat("n", 65), "9", "9{} x", `a{b="` + strings.Repeat("x", 257) + `"} 1`, `a{"} 1`, `a{\} 1`, `a{"}"} 1`,
		},
		3: {
			"a", "a ", "a{}", "a{} ", "a x", "a{}x", "a 0x1", "a 1_0", "a - 1", "a {}{} 1", "a{}} 1", "a 1,5", "a 1x", "a \xff", "a e", "a 1{}", "a # 1", "a =1", "a 1\r", "a \r", strings.Repeat("n", 64), "a " + strings.Repeat("1", 65), "a +nan", "a x 5", "a x y", "a{}\v1", "a{}x 05", "a inft",
		},
		4: {
			"a 1 x", "a 1 -1", "a 1 +1", "a 1 01", "a 1 00", "a 1 -0", "a 1 1.0", "a 1 1e3", "a 1 9223372036854775808", "a 1 99999999999999999999", "a 1 5 6", "a 1 5 x", "a 1 5 #", "a 1 # 5", "a 1 0x5", "a 1 1_0", "a 1 \xff", "a 1 １", "a{}1 5 5", "a 1 5\r", "a 1 \r", "a 1 5,", "a 1 {}",
		},
	} {
		for _, s := range l {
			refuses(t, s, 1, rule)
			refuses(t, "# x\nb 1\n\n \t"+s+" \nb 1\n# TYPE", 4, rule)
		}
	}
	for s, want := range map[string]int64{"a 1 0": 0, "a 1 5": 5, "a{}1\t \t7 ": 7, "a 1 9223372036854775807": math.MaxInt64, "a 1 10": 10} {
		parses(t, s, family("a", api.MetricUntyped, timed(sample("a", 1), want)))
	}
}

func TestParseTwice(t *testing.T) { // 15.3, rule 6
	refuses(t, "a 1\na 2", 2, 6)
	refuses(t, "a 1\n\na{} 1 5", 3, 6)
	refuses(t, `a{b="c",d="e"} 1`+"\n"+`a{d="e",b="c"} 1`, 2, 6)
	refuses(t, "a 1\nb 1\n# TYPE c gauge\nb{} 2", 4, 6)
	refuses(t, "a_sum 1\n# TYPE a summary\na_sum 2", 3, 6) // of whatever family
	refuses(t, "a 1\na 2 x", 2, 4)
	refuses(t, "a 1\na x", 2, 3)
	parses(t, "a 1\n"+`a{b="c"} 1`+"\n"+`a{b="d"} 1`, family("a", api.MetricUntyped, sample("a", 1), sample("a", 1, "b", "c"), sample("a", 1, "b", "d")))
}

func TestParseBelongs(t *testing.T) { // 15.3
	const h, s = "# TYPE h histogram\n", "# TYPE h summary\n"
	hist := func(l ...api.Sample) api.Family { return family("h", api.MetricHistogram, l...) }
	sum := func(l ...api.Sample) api.Family { return family("h", api.MetricSummary, l...) }
	alone := func(name string) api.Family { return family(name, api.MetricUntyped, sample(name, 1)) }
	for _, end := range []string{"_bucket", "_sum", "_count"} {
		parses(t, h+"h"+end+" 1", hist(sample("h"+end, 1)))
		parses(t, "# HELP h"+end+"\n"+h+"h"+end+" 1", family("h"+end, api.MetricUntyped), hist(sample("h"+end, 1)))
		parses(t, "# TYPE h"+end+" counter\n"+h+"h"+end+" 1", family("h"+end, api.MetricCounter), hist(sample("h"+end, 1)))
		parses(t, "h"+end+" 1\n"+h, alone("h"+end), hist())
		for _, word := range []string{"counter", "gauge", "untyped"} {
			l, why, _ := expo.Parse("# TYPE h " + word + "\nh" + end + " 1")
			if why != api.OK || len(l) != 2 || len(l[0].Samples) != 0 || !expo.Same(l[1:], []api.Family{alone("h" + end)}) {
				t.Errorf("of a %s: %v, error %d", word, l, why)
			}
		}
	}
	parses(t, h+"h 1", hist(sample("h", 1))) // its own name, though Check refuses it
	breaks(t, hist(sample("h", 1)), 4)
	parses(t, s+"h 1\nh_sum 2\nh_count 3\nh_bucket 1", sum(sample("h", 1), sample("h_sum", 2), sample("h_count", 3)), alone("h_bucket"))
	parses(t, h+"h_total 1\nh_sumx 1\nx_sum 1\n_sum 1", hist(), alone("h_total"), alone("h_sumx"), alone("x_sum"), alone("_sum"))
	parses(t, "# TYPE h_sum summary\n"+h+"h_sum 1", family("h_sum", api.MetricSummary, sample("h_sum", 1)), hist()) // the first such
	parses(t, h+"# TYPE h_sum summary\nh_sum 1\nh_sum_sum 1", hist(sample("h_sum", 1)), family("h_sum", api.MetricSummary, sample("h_sum_sum", 1)))
	parses(t, "# HELP h_sum\n"+h+"# TYPE h_sum summary\nh_sum 1", family("h_sum", api.MetricSummary, sample("h_sum", 1)), hist()) // first told of, though its kind came later
	parses(t, "# HELP h\n# TYPE h_sum summary\nh_sum 1\n"+h+"h_sum{a=\"b\"} 1", hist(sample("h_sum", 1, "a", "b")), family("h_sum", api.MetricSummary, sample("h_sum", 1)))
	parses(t, "h_sum 1\n"+h+"h_sum{a=\"b\"} 1", alone("h_sum"), hist(sample("h_sum", 1, "a", "b")))
	long := strings.Repeat("n", 60)
	parses(t, "# TYPE "+long+" histogram\n"+long+"_sum 1", family(long, api.MetricHistogram, sample(long+"_sum", 1)))
	refuses(t, "# TYPE "+long+"n histogram\n"+long+"n_sum 1", 2, 2)
}

func TestParseLines(t *testing.T) { // 15.3: the least line, of it the least rule
	refuses(t, "a 1\n\n# x\na 2\n9", 4, 6)
	refuses(t, "9 x y\na 1\na 1", 1, 2)
	refuses(t, "a x y", 1, 3)
	refuses(t, "a{b} x y", 1, 2)
	refuses(t, "\n\n\n\na", 5, 3)
	refuses(t, strings.Repeat("\n", 1<<20)+"9", 1<<20+1, 2)
	refuses(t, "a 1\r\nb 1\r\n", 1, 3)
	refuses(t, "a\n1", 1, 3)
	refuses(t, "a 1\n5", 2, 2)
	refuses(t, "a{b=\"\n\"} 1", 1, 2)
	parses(t, "a 1", family("a", api.MetricUntyped, sample("a", 1)))
	parses(t, "a 1\n", family("a", api.MetricUntyped, sample("a", 1)))
	parses(t, "a 1\n\n", family("a", api.MetricUntyped, sample("a", 1)))
}

// shadow reads a text by expressions, and by the document's words.
type shadow struct {
	families []api.Family
	helps    map[string]int
	types    map[string]int
	samples  []api.Sample
}

const name = `[A-Za-z_][A-Za-z0-9_]{0,63}`

var (
	ends       = regexp.MustCompile(`^[ \t]+|[ \t]+$`)
	tellsHelp  = regexp.MustCompile(`^#[ \t]+HELP([ \t]|$)`)
	tellsType  = regexp.MustCompile(`^#[ \t]+TYPE([ \t]|$)`)
	helpForm   = regexp.MustCompile(`^#[ \t]+HELP[ \t]+(` + name + `)(?:[ \t]+((?:[^\\]|\\\\|\\n)*))?$`)
	typeForm   = regexp.MustCompile(`^#[ \t]+TYPE[ \t]+(` + name + `)[ \t]+(counter|gauge|histogram|summary|untyped)$`)
	nameForm   = regexp.MustCompile(`^` + name + `$`)
	sampleForm = regexp.MustCompile(`(?s)^([^ \t{]*)([ \t]*)(\{(?:[^"}]|"(?:[^"\\]|\\.)*")*\})?(.*)$`)
	timeForm   = regexp.MustCompile(`^(0|[1-9][0-9]{0,18})$`)
	wordForm   = regexp.MustCompile(`[^ \t]+`)
	unescaped  = strings.NewReplacer(`\\`, `\`, `\n`, "\n")
)

func (s *shadow) find(name string) int {
	i := slices.IndexFunc(s.families, func(f api.Family) bool { return f.Name == name })
	if i < 0 {
		i = len(s.families)
		s.families = append(s.families, api.Family{Name: name, Kind: api.MetricUntyped})
	}
	return i
}

func (s *shadow) help(line string) int {
	w := helpForm.FindStringSubmatch(line)
	if w == nil || !utf8.ValidString(line) || len(unescaped.Replace(w[2])) > 256 {
		return 1
	}
	i := s.find(w[1])
	if s.helps[w[1]]++; s.helps[w[1]] > 1 {
		return 5
	}
	s.families[i].Help = unescaped.Replace(w[2])
	return 0
}

func (s *shadow) kind(line string) int {
	w := typeForm.FindStringSubmatch(line)
	if w == nil {
		return 1
	}
	i := s.find(w[1])
	if s.types[w[1]]++; s.types[w[1]] > 1 || len(s.families[i].Samples) > 0 {
		return 5
	}
	s.families[i].Kind = kinds[slices.Index([]string{"counter", "gauge", "histogram", "summary", "untyped"}, w[2])]
	return 0
}

func (s *shadow) sample(line string) int {
	w := sampleForm.FindStringSubmatch(line)
	x := api.Sample{Name: w[1]}
	why := api.OK
	if w[3] != "" {
		x.Labels, why, _ = labels.Parse(w[3])
	}
	if !nameForm.MatchString(w[1]) || why != api.OK || w[3] == "" && strings.HasPrefix(w[4], "{") {
		return 2
	}
	words := append(wordForm.FindAllString(w[4], -1), "", "", "")
	var is bool
	if x.Value, is = expo.ParseFloat(words[0]); !is {
		return 3
	}
	if words[1] != "" {
		n, err := strconv.ParseInt(words[1], 10, 64)
		if !timeForm.MatchString(words[1]) || err != nil || words[2] != "" {
			return 4
		}
		x = timed(x, n)
	}
	for _, o := range s.samples {
		if o.Name == x.Name && slices.Equal(o.Labels, x.Labels) {
			return 6
		}
	}
	s.samples = append(s.samples, x)
	i := slices.IndexFunc(s.families, func(f api.Family) bool {
		return (f.Kind == api.MetricHistogram || f.Kind == api.MetricSummary) && slices.Contains(namesOf(f), x.Name)
	})
	if i < 0 {
		i = s.find(x.Name)
	}
	s.families[i].Samples = append(s.families[i].Samples, x)
	return 0
}

// shown is what a text says, or its first fault.
func shown(text string) ([]api.Family, api.Fault) {
	s := &shadow{helps: map[string]int{}, types: map[string]int{}}
	for n, line := range strings.Split(text, "\n") {
		line = ends.ReplaceAllString(line, "")
		rule := 0
		switch {
		case tellsHelp.MatchString(line):
			rule = s.help(line)
		case tellsType.MatchString(line):
			rule = s.kind(line)
		case line != "" && line[0] != '#':
			rule = s.sample(line)
		}
		if rule > 0 {
			return nil, api.Fault{Line: n + 1, Rule: rule}
		}
	}
	return s.families, api.Fault{}
}

// someLine is a line, some of which are none.
func someLine(r *rand.Rand) string {
	one := func(l ...string) string { return l[r.Intn(len(l))] }
	whose := func() string { return one("h", "h", "a", "h_sum", "h_count", "h_bucket", "a_sum", "h_sum_sum") }
	switch r.Intn(8) {
	case 0:
		return one("# HELP ", "#\tHELP  ", "# HELP\t") + whose() + one(" ", "\t ", "") + one("x", "", "\\n", "x y\\\\", "\\", "é", "\xff", "x ")
	case 1, 2:
		return one("# TYPE ", "#  TYPE\t ", "# TYPE ", "#TYPE ") + whose() + one(" ", "\t ") + one("counter", "gauge", "histogram", "histogram", "summary", "summary", "untyped", "x", "gauge ", "gauge x")
	case 3:
		return one("", " ", "#", "# x", "# HELP", "\t#", "x", "9")
	}
	set := one("", "", "{}", `{a="b"}`, ` {a="c"}`, `{le="1",a="b"}`, `{quantile="0.5"}`, `{a="}"}`, `{a="\"}"}`, `{a="b"`, `{a=b}`, `{b="x",a="b"}`, `{a="b",b="x"}`, "{a=\"\xc3\"}")
	return whose() + set + one(" ", "  ", "\t", "") + one("1", "2.5", "NaN", "x", "1e999", "-0", "") + one("", "", " 5", " 0", " 05", " x", " 5 5", "\t7 ")
}

func TestParseOfAny(t *testing.T) { // 15.3, P3
	r := rand.New(rand.NewSource(4))
	counts := [7]int{}
	for i := range 120000 {
		var lines []string
		for range 1 + r.Intn(7) {
			lines = append(lines, someLine(r))
		}
		text := strings.Join(lines, "\n")
		if i%2 == 0 && text != "" { // one byte changed
			b, at := []byte(text), r.Intn(len(text))
			b[at] = " \t\n{}\"\\#,=a1x\xc3\r"[r.Intn(15)]
			text = string(b)
		}
		l, why, at := expo.Parse(text)
		want, fault := shown(text)
		counts[fault.Rule]++
		if at != fault || (why == api.OK) != (fault.Rule == 0) || why != api.OK && (why != api.ErrExpo || l != nil) || !isSame(l, want) {
			t.Fatalf("Parse(%q): %v, error %d at %v, want %v at %v", text, l, why, at, want, fault)
		}
	}
	for rule, n := range counts {
		if n < 100 {
			t.Errorf("of rule %d too few: %v", rule, counts)
		}
	}
}

func TestThereAndBack(t *testing.T) { // 15.2, 15.6, P13
	r := rand.New(rand.NewSource(5))
	samples := 0
	for range 20000 {
		l := someFamilies(r)
		text, why := expo.Print(l)
		if why != api.OK {
			t.Fatalf("Print(%v): error %d", l, why)
		}
		short := true
		for _, f := range l {
			samples += len(f.Samples)
			for _, s := range f.Samples {
				short = short && len(s.Name) <= api.MaxName
			}
		}
		if !short {
			_, why, at := expo.Parse(text)
			if why != api.ErrExpo || at.Rule != 2 {
				t.Fatalf("Parse(%q): error %d at %v", text, why, at)
			}
			continue
		}
		got, why, at := expo.Parse(text)
		if why != api.OK || at != (api.Fault{}) || !isSame(got, l) || !expo.Same(got, l) {
			t.Fatalf("Parse(%q): %v, error %d at %v, want %v", text, got, why, at, l)
		}
		if again, _ := expo.Print(got); again != text {
			t.Fatalf("%q is written as %q", text, again)
		}
	}
	if samples < 20000 {
		t.Error("too few samples:", samples)
	}
}

// spread is a text in which blanks, blank lines and remarks are put.
func spread(r *rand.Rand, text string) string {
	more := func() string { return []string{"", "", " ", "\t", " \t "}[r.Intn(5)] }
	var out strings.Builder
	for line := range strings.Lines(text) {
		for range r.Intn(3) {
			out.WriteString([]string{"\n", " \t\n", "# remark\n", "#\n", "\t# HELPS a b\n"}[r.Intn(5)])
		}
		line = strings.TrimSuffix(line, "\n")
		words := 4 // of a # line: behind them only what is told
		if !strings.HasPrefix(line, "#") {
			words = 3
			if i := strings.LastIndex(line, "}"); i >= 0 { // within the labels nothing changes
				out.WriteString(more() + line[:strings.Index(line, "{")] + more() + line[strings.Index(line, "{"):i+1])
				line = line[i+1:]
			}
		}
		out.WriteString(more())
		for i, w := range strings.SplitN(line, " ", words) {
			if i > 0 {
				out.WriteString([]string{" ", "\t"}[r.Intn(2)] + more())
			}
			out.WriteString(w)
		}
		out.WriteString(more() + "\n")
	}
	return out.String()
}

func TestBlanks(t *testing.T) { // 15.7, 15.8
	r := rand.New(rand.NewSource(6))
	for range 20000 {
		l := someFamilies(r)
		text, _ := expo.Print(l)
		want, why, _ := expo.Parse(text)
		if why != api.OK {
			continue
		}
		wide := spread(r, text)
		got, why, at := expo.Parse(wide)
		if why != api.OK || !isSame(got, want) {
			t.Fatalf("Parse(%q): %v, error %d at %v, want %v", wide, got, why, at, want)
		}
		if again, _ := expo.Print(got); again != text {
			t.Fatalf("%q is written as %q", wide, again)
		}
	}
}

func TestParsedMemory(t *testing.T) { // 15.5
	const text = "# HELP a x\n# TYPE a summary\na{b=\"c\",quantile=\"1\"} 1\na_sum{b=\"c\"} 2\nb{b=\"c\"} 1\nb{b=\"d\"} 1\n"
	first, _, _ := expo.Parse(text)
	second, _, _ := expo.Parse(text)
	kept := clone(second)
	for i := range first {
		for j := range first[i].Samples {
			s := &first[i].Samples[j]
			spoil(s.Labels)
			s.Labels = nil
			want := clone(kept)
			for _, f := range want[:i] {
				clear(f.Samples)
			}
			for k := range j + 1 {
				want[i].Samples[k].Labels = nil
			}
			if !isSame(first, want) {
				t.Fatal("two lists are one:", first)
			}
		}
		spoil(first[i].Samples)
		clear(first[i].Samples)
	}
	spoil(first)
	if !isSame(second, kept) {
		t.Error("two answers are one")
	}
	parses(t, text, kept...)
}
