package statsd_test

import (
	"math/rand"
	"regexp"
	"slices"
	"strconv"
	"strings"
	"testing"

	"abacus/api"
	"abacus/labels"
	"abacus/statsd"
)

const count, gauge, times, hist = api.PointCount, api.PointGauge, api.PointTime, api.PointHist

func TestLine(t *testing.T) { // 16.1, example 1
	says(t, "hits:2|c|@0.1|#job:a", weighed(point(count, "hits", 2000000, "job", "a"), 10))
	says(t, "t:1.5|ms", point(times, "t", 1500000))
	says(t, "g:-3|g", rel(point(gauge, "g", -3000000)))
	says(t, "u:é|s", member("u", "é"))
	says(t, "g:+3|g", rel(point(gauge, "g", 3000000)))
	says(t, "g:3|g", point(gauge, "g", 3000000))
	says(t, "g:-0|g", rel(point(gauge, "g", 0)))
	says(t, "g:+0.000001|g", rel(point(gauge, "g", 1)))
	says(t, "c:-3|c", point(count, "c", -3000000))
	says(t, "c:-0|c", point(count, "c", 0))
	says(t, "h:0|h", point(hist, "h", 0))
	says(t, "h:999999.999999|h", point(hist, "h", api.MaxAmount-1))
	says(t, "c:-999999.999999|c", point(count, "c", 1-api.MaxAmount))
	says(t, "a:1|c|#z:1,b:2", point(count, "a", 1000000, "b", "2", "z", "1"))
	says(t, "a:1|g|#b::", point(gauge, "a", 1000000, "b", ":"))
	says(t, "a:1|c|#b:#@{}=\" \\", point(count, "a", 1000000, "b", "#@{}=\" \\"))
	says(t, "a:1|c|#b:@,c:#", point(count, "a", 1000000, "b", "@", "c", "#"))
	says(t, "a:x:y,z|s|#b:c", member("a", "x:y,z", "b", "c"))
	says(t, "a: |s", member("a", " "))
	says(t, "a::|s", member("a", ":"))
	says(t, "a:1|s", member("a", "1"))
	for _, name := range []string{"_", "A", "z9", "a.b-c_d", "a..", "a--", "_9", longName} {
		says(t, name+":1|c", point(count, name, 1000000))
	}
}

func TestLineForm(t *testing.T) { // 16.1, rule 1, example 2
	for _, line := range []string{
		"", "hits", "hits:2", ":2|c", "|", "||", "|c", "c|", "hits|c", "hits|c:2", "hits|2:c|c", ":|c", "::2|c", " hits:2|c", "hits :2|c", "9a:2|c", ".a:2|c", "-a:2|c", "é:2|c", "a/b:2|c", "a b:2|c", "a\xff:2|c", "a#b:2|c", "a@:1|c", "a,b:1|c", "a{}:1|c",
		"hits:2|c\n", "\nhits:2|c", "hi\nts:2|c", "hits:2\n|c", "hits:2|c|#a:b\n", "u:a\nb|s", "9:x|y|z", longName + "x:2|c", longName + "x",
	} {
		breaks(t, line, 1)
	}
	room := api.MaxLine - len("a:|s|#")
	if _, rule := statsd.Line("a:1|c|" + strings.Repeat("x", api.MaxLine-len("a:1|c|"))); rule != 4 {
		t.Error("a line of just the greatest length: rule", rule)
	}
	breaks(t, "a:1|c|"+strings.Repeat("x", api.MaxLine-len("a:1|c|")+1), 1)
	breaks(t, "a:"+strings.Repeat("x", room)+"|s|#", 3)
	breaks(t, "a:1|c|"+strings.Repeat("|", api.MaxLine), 1)
	breaks(t, strings.Repeat("|", api.MaxLine), 1)
	breaks(t, strings.Repeat("a", 1<<20), 1)
	full, tags := fullLine()
	says(t, full, api.Point{Kind: count, Name: "a", Labels: tags, Value: 1000000, Weight: 1})
	breaks(t, full+"v", 1)
}

// fullLine is a line of just the greatest length, and its labels.
func fullLine() (string, []api.Label) {
	set := many(api.MaxLabels)
	size := len("a:1|c|#") - 1
	for _, l := range set {
		size += len(l.Name) + 2
	}
	for i := range set {
		n := min(api.MaxValue-5, api.MaxLine-size-(len(set)-1-i)) // the last ones have room for a byte at least
		set[i].Value = strings.Repeat("v", n)
		size += n
	}
	var tags []string
	for _, l := range set {
		tags = append(tags, l.Name+":"+l.Value)
	}
	return "a:1|c|#" + strings.Join(tags, ","), set
}

func TestLineType(t *testing.T) { // 16.1, rule 2
	for _, word := range []string{"x", "", "C", "cc", "m", "MS", "ms ", " c", "counter", "gs", "s\r", "\xff", "d", "@0.1", "#a:b"} {
		breaks(t, "hits:2|"+word, 2)
		breaks(t, "hits:x|"+word+"|x", 2)
		breaks(t, "hits:|"+word+"||", 2)
	}
}

func TestLineValue(t *testing.T) { // 16.1, rule 3
	bad := []string{"", "x", "01", "00", "1.", ".1", ".", "1.0000001", "1.1234567", "1000000", "0000001", "1234567.1", "1e3", "1,5", "1 ", " 1", "1.2.3", "0x1", "1_0", "--1", "++1", "+-1", "-+1", "-", "+", "- 1", "inf", "NaN", "１", "1\r", "1:2", ":1", "-01", "+1.", "1.-1", "1.+1", "1. 1", "9223372036854775808", "\xff", "-.5", "00.5"}
	for _, kind := range []string{"c", "g", "ms", "h"} {
		for _, value := range bad {
			breaks(t, "a:"+value+"|"+kind, 3)
			breaks(t, "a:"+value+"|"+kind+"|x", 3)
		}
	}
	for _, line := range []string{"t:-1|ms", "t:+1|ms", "t:-0|ms", "t:+0|h", "t:-1|h", "t:-1.5|h", "c:+1|c", "c:+0|c"} {
		breaks(t, line, 3)
	}
	for text, want := range map[string]int64{"0": 0, "1": 1000000, "10": 10000000, "999999": 999999000000, "0.1": 100000, "0.000001": 1, "0.100000": 100000, "0.0": 0, "0.000000": 0, "1.5": 1500000, "123456.654321": 123456654321, "5.050": 5050000, "100000.1": 100000100000} {
		for word, kind := range map[string]api.PointKind{"c": count, "g": gauge, "ms": times, "h": hist} {
			says(t, "a:"+text+"|"+word, point(kind, "a", want))
		}
		says(t, "a:-"+text+"|c", point(count, "a", -want))
		says(t, "a:-"+text+"|g", rel(point(gauge, "a", -want)))
		says(t, "a:+"+text+"|g", rel(point(gauge, "a", want)))
		says(t, "a:"+text+"|s", member("a", text))
	}
	for _, text := range []string{"", "\xff", "a\xc3", "\xed\xa0\x80", strings.Repeat("x", api.MaxValue+1), strings.Repeat("é", api.MaxValue/2) + "x"} {
		breaks(t, "a:"+text+"|s", 3)
	}
	for _, text := range []string{"\x00", "\r", "\t", ",", "#", "@", "\\", "\"", "😀", strings.Repeat("x", api.MaxValue), strings.Repeat("é", api.MaxValue/2)} {
		says(t, "a:"+text+"|s", member("a", text))
	}
}

func TestLineParts(t *testing.T) { // 16.1, rule 4
	for _, rest := range []string{"", "|", "x", "0.1", "a:b", " @0.1", " #a:b", "@0.1|", "|@0.1", "#a:b|", "|#a:b", "#a:b|@0.1", "@0.1|@0.1", "#a:b|#c:d", "@0.1|x", "x|#a:b", "@0.1|#a:b|", "@0.1|#a:b|#c:d", "@0.1|#a:b|x", "||", "@|@", "#|#", "#|@", "@||#a:b"} {
		breaks(t, "hits:2|c|"+rest, 4)
		breaks(t, "u:x|s|"+rest, 4)
	}
}

func TestLineRate(t *testing.T) { // 16.1, rule 5
	for _, rate := range []string{"0", "", "1.0", "2", "10", "0.", "0.0", "0.000000", "0.0000001", "0.1234567", ".5", "00.5", "01", "-0.5", "+0.5", "-1", "1.", "1.000000", "0.5 ", " 0.5", "0.x", "0.5x", "x", "0.-5", "0.+5", "1e-1", "0,5", "0.5.5", "@0.5", "#", "é", "0x1", "1.5"} {
		for _, kind := range []string{"c", "ms", "h"} {
			breaks(t, "a:1|"+kind+"|@"+rate, 5)
			breaks(t, "a:1|"+kind+"|@"+rate+"|#a", 5)
		}
	}
	for _, rate := range []string{"0.1", "1", "0", ""} {
		breaks(t, "g:1|g|@"+rate, 5)
		breaks(t, "g:+1|g|@"+rate, 5)
		breaks(t, "u:x|s|@"+rate, 5)
		breaks(t, "u:x|s|@"+rate+"|#a", 5)
	}
	for rate, want := range map[string]int64{"1": 1, "0.5": 2, "0.4": 3, "0.3": 3, "0.1": 10, "0.100000": 10, "0.000001": 1000000, "0.999999": 1, "0.666667": 1, "0.666666": 2, "0.400001": 2, "0.7": 1, "0.6": 2, "0.01": 100, "0.03": 33, "0.000002": 500000, "0.000003": 333333} {
		for word, kind := range map[string]api.PointKind{"c": count, "ms": times, "h": hist} {
			says(t, "a:1|"+word+"|@"+rate, weighed(point(kind, "a", 1000000), want))
		}
	}
}

func TestLineTags(t *testing.T) { // 16.1, rule 6
	for _, tags := range []string{"", "a", "a:", ":b", ":", "a:b,", ",a:b", "a:b,,c:d", ",", "a:b,a:c", "a:b,c:d,a:b", "1:b", "a-b:c", "a.b:c", "é:x", "a :b", " a:b", "a:b, c:d", "a=b", "a:\xff", "a:b,c:\xc3", "a:" + strings.Repeat("x", api.MaxValue+1), strings.Repeat("n", api.MaxName+1) + ":x", "a:b,c", "#a:b,", "#a:b"} {
		breaks(t, "hits:2|c|#"+tags, 6)
		breaks(t, "hits:2|c|@0.1|#"+tags, 6)
		breaks(t, "u:x|s|#"+tags, 6)
	}
	var tags []string
	for _, l := range many(api.MaxLabels + 1) {
		tags = append(tags, l.Name+":x")
	}
	breaks(t, "a:1|c|#"+strings.Join(tags, ","), 6)
	says(t, "a:1|c|#"+strings.Join(tags[1:], ","), api.Point{Kind: count, Name: "a", Labels: many(api.MaxLabels + 1)[1:], Value: 1000000, Weight: 1})
	slices.Reverse(tags)
	says(t, "a:1|c|#"+strings.Join(tags[1:], ","), api.Point{Kind: count, Name: "a", Labels: many(api.MaxLabels), Value: 1000000, Weight: 1})
	long := strings.Repeat("n", api.MaxName)
	says(t, "a:1|c|#"+long+":"+strings.Repeat("é", api.MaxValue/2), point(count, "a", 1000000, long, strings.Repeat("é", api.MaxValue/2)))
	says(t, "a:1|c|#b:\x00\t \r", point(count, "a", 1000000, "b", "\x00\t \r"))
}

// The example of the document, and of several rules the least.
func TestLineOrder(t *testing.T) { // 16.1, example 2
	for line, rule := range map[string]int{
		"hits": 1, "hits:2": 1, ":2|c": 1, "hits:2|x": 2, "hits:x|c": 3, "t:-1|ms": 3, "hits:2|c|": 4, "hits:2|c|#a:b|@0.1": 4, "g:1|g|@0.1": 5, "hits:2|c|@0": 5, "hits:2|c|#a": 6, "hits:1.0000001|c": 3, "hits:01|c": 3,
		"9:x|x|x|x|x": 1, "a:x|x|x|x|x": 2, "a:x|c|x|x|x": 3, "a:1|c|@0|#|x": 4, "a:1|c|@0|#": 5, "a:1|c|@1|#": 6,
	} {
		breaks(t, line, rule)
	}
}

const numberForm = `(?:0|[1-9][0-9]{0,5})(?:\.[0-9]{1,6})?`

var (
	openForm  = regexp.MustCompile(`(?s)^([A-Za-z_][A-Za-z0-9_.-]{0,63}):([^|]*)\|([^|]*)((?:\|[^|]*)*)$`)
	valueForm = map[string]*regexp.Regexp{
		"c": regexp.MustCompile(`^-?` + numberForm + `$`), "g": regexp.MustCompile(`^[+-]?` + numberForm + `$`),
		"ms": regexp.MustCompile(`^` + numberForm + `$`), "h": regexp.MustCompile(`^` + numberForm + `$`), "s": regexp.MustCompile(`(?s)^.+$`),
	}
	partsForm = regexp.MustCompile(`(?s)^(?:\|@([^|]*))?(?:\|#([^|]*))?$`)
	rateForm  = regexp.MustCompile(`^(?:1|0\.[0-9]{1,6})$`)
	kindWords = map[string]api.PointKind{"c": count, "g": gauge, "ms": times, "h": hist, "s": api.PointSet}
)

// millionths is a number by floats, which have all of them.
func millionths(s string) int64 {
	x, err := strconv.ParseFloat(s, 64)
	if err != nil {
		panic("no number: " + s)
	}
	if x < 0 {
		return -int64(-x*1000000 + 0.5)
	}
	return int64(x*1000000 + 0.5)
}

// shown is what a line says by expressions, or the rule that it breaks.
func shown(line string) (api.Point, int) {
	none := api.Point{}
	w := openForm.FindStringSubmatch(line)
	if w == nil || len(line) > 8192 || strings.Contains(line, "\n") {
		return none, 1
	}
	kind := kindWords[w[3]]
	if kind == 0 {
		return none, 2
	}
	if !valueForm[w[3]].MatchString(w[2]) || kind == api.PointSet && labels.Value(w[2]) >= 0 {
		return none, 3
	}
	parts := partsForm.FindStringSubmatchIndex(w[4])
	if parts == nil {
		return none, 4
	}
	p := api.Point{Kind: kind, Name: w[1], Weight: 1}
	if kind == api.PointSet {
		p.Text = w[2]
	} else {
		p.Value = millionths(w[2])
		p.Rel = kind == gauge && strings.ContainsAny(w[2][:1], "+-")
	}
	if parts[2] >= 0 {
		rate := w[4][parts[2]:parts[3]]
		if !rateForm.MatchString(rate) || millionths(rate) == 0 || kind == gauge || kind == api.PointSet {
			return none, 5
		}
		p.Weight = weight(millionths(rate))
	}
	if parts[4] >= 0 {
		for _, tag := range strings.Split(w[4][parts[4]:parts[5]], ",") {
			name, value, is := strings.Cut(tag, ":")
			if _, has := labels.Get(p.Labels, name); !is || has {
				return none, 6
			}
			p.Labels = append(p.Labels, api.Label{Name: name, Value: value})
		}
		slices.SortFunc(p.Labels, func(a, b api.Label) int { return strings.Compare(a.Name, b.Name) })
		if !labels.Right(p.Labels) {
			return none, 6
		}
	}
	return p, 0
}

// weight is the whole number n for which 1000000 / rate is at least n - 1/2, and below n + 1/2.
func weight(rate int64) int64 {
	n := 1000000 / rate
	if (2*n+1)*rate <= 2000000 {
		n++
	}
	return n
}

func someLine(r *rand.Rand) string {
	line := one(r, "a", "hits", "b.c-d", "_", "a", "9", "") + one(r, ":", ":", ":", ":", ":", ":", "", "::") +
		one(r, "1", "2.5", "-3", "+4", "0", "0.000001", "999999", "01", "x", "", "1.", "é", "-0", "5.050", "\xff", "1000000") + one(r, "|", "|", "|", "|", "|", "|", "|", "", "||") + one(r, "c", "g", "ms", "h", "s", "c", "c", "x", "")
	for range r.Intn(4) {
		line += one(r, "|@0.1", "|@0.3", "|@1", "|@0.000007", "|@0", "|@", "|#a:b", "|#a:b,c:d", "|#z:1,a:2", "|#a:b,a:c", "|#a", "|#", "|", "|x", "|#a:\xff")
	}
	return line
}

func TestLineOfAny(t *testing.T) { // 16.1, P3
	r := rand.New(rand.NewSource(1))
	counts := [7]int{}
	for i := range 300000 {
		line := someLine(r)
		if i%3 == 0 && line != "" {
			b, at := []byte(line), r.Intn(len(line))
			b[at] = ":|@#,.-+0159acgmsh\xff\n"[r.Intn(20)]
			line = string(b)
		}
		p, rule := statsd.Line(line)
		want, broken := shown(line)
		counts[broken]++
		if rule != broken || !isSamePoint(p, want) {
			t.Fatalf("Line(%q): %v, rule %d, want %v, rule %d", line, p, rule, want, broken)
		}
		if rule == 0 && !statsd.Right(p) {
			t.Fatalf("Line(%q): %v is not right", line, p)
		}
	}
	for rule, n := range counts {
		if n < 2000 {
			t.Errorf("of rule %d too few: %v", rule, counts)
		}
	}
}

func parses(t *testing.T, s string, want ...api.Point) {
	t.Helper()
	if l, why, at := statsd.Parse(s); why != api.OK || at != (api.Fault{}) || !areSamePoints(l, want) {
		t.Errorf("Parse(%.200q): %v, error %d at %v, want %v", s, l, why, at, want)
	}
}

func refuses(t *testing.T, s string, want api.Errno, line, rule int) {
	t.Helper()
	if l, why, at := statsd.Parse(s); l != nil || why != want || at != (api.Fault{Line: line, Rule: rule}) {
		t.Errorf("Parse(%.200q): %d points, error %d at %v, want error %d at %d, %d", s, len(l), why, at, want, line, rule)
	}
}

func TestParse(t *testing.T) { // 16.2, 16.7
	a, b := point(count, "a", 1000000), member("b", "x", "c", "d")
	parses(t, "")
	parses(t, "\n")
	parses(t, "\n\n\n")
	parses(t, "a:1|c", a)
	parses(t, "a:1|c\n", a)
	parses(t, "\na:1|c\n\n\nb:x|s|#c:d\n\n", a, b)
	parses(t, "a:1|c\na:1|c\nb:x|s|#c:d", a, a, b)
	for rule, line := range []string{1: "hits", 2: "a:1|x", 3: "a:x|c", 4: "a:1|c|", 5: "a:1|c|@0", 6: "a:1|c|#"} {
		if rule == 0 {
			continue
		}
		refuses(t, line, api.ErrLine, 1, rule)
		refuses(t, "\n\na:1|c\n"+line+"\n", api.ErrLine, 4, rule)
		refuses(t, "a:1|c\n"+line+"\nhits\n9", api.ErrLine, 2, rule)
	}
	refuses(t, " ", api.ErrLine, 1, 1)
	refuses(t, "a:1|c\n ", api.ErrLine, 2, 1)
	refuses(t, "a:1|c\r\n", api.ErrLine, 1, 2)
	refuses(t, "a:1|c\n\x00", api.ErrLine, 2, 1)
	refuses(t, strings.Repeat("x", api.MaxLine+1), api.ErrLine, 1, 1)
	full, tags := fullLine()
	parses(t, full+"\n"+full, api.Point{Kind: count, Name: "a", Labels: tags, Value: 1000000, Weight: 1}, api.Point{Kind: count, Name: "a", Labels: tags, Value: 1000000, Weight: 1})
}

func TestParseMany(t *testing.T) { // 16.2
	a := point(count, "a", 1000000)
	blank := strings.Repeat("\n", api.MaxLines-1)
	parses(t, blank)
	parses(t, blank+"\n")
	parses(t, blank+"a:1|c", a)
	parses(t, blank+"a:1|c\n", a)
	refuses(t, blank+"x", api.ErrLine, api.MaxLines, 1)
	refuses(t, blank+"\n\n", api.ErrMany, 0, 0)
	refuses(t, blank+"\na:1|c", api.ErrMany, 0, 0)
	refuses(t, blank+"a:1|c\na", api.ErrMany, 0, 0)
	refuses(t, "x\n"+blank+"a", api.ErrMany, 0, 0) // ahead of what is wrong
	refuses(t, "x\n"+blank, api.ErrLine, 1, 1)
	l, why, _ := statsd.Parse(strings.Repeat("a:1|c\n", api.MaxLines))
	if len(l) != api.MaxLines || why != api.OK {
		t.Errorf("so many lines as may be: %d, error %d", len(l), why)
	}
	refuses(t, strings.Repeat("a:1|c\n", api.MaxLines)+"b", api.ErrMany, 0, 0)
}

func TestParsePackets(t *testing.T) { // 16.2, 16.7
	r := rand.New(rand.NewSource(2))
	for range 20000 {
		var first, second []string
		for range r.Intn(4) {
			first = append(first, someLine(r)+"\n")
		}
		for range r.Intn(4) {
			second = append(second, someLine(r)+one(r, "\n", "\n\n"))
		}
		a, b := strings.Join(first, ""), strings.TrimSuffix(strings.Join(second, ""), one(r, "\n", ""))
		l, why, at := statsd.Parse(a)
		m, whyNext, atNext := statsd.Parse(b)
		both, whyBoth, atBoth := statsd.Parse(a + b)
		switch {
		case why != api.OK:
			if whyBoth != why || atBoth != at || both != nil {
				t.Fatalf("Parse(%q): error %d at %v", a+b, whyBoth, atBoth)
			}
		case whyNext != api.OK:
			atNext.Line += len(first)
			if whyBoth != whyNext || atBoth != atNext || both != nil {
				t.Fatalf("Parse(%q): error %d at %v", a+b, whyBoth, atBoth)
			}
		case whyBoth != api.OK || !areSamePoints(both, append(l, m...)):
			t.Fatalf("Parse(%q): %v, error %d", a+b, both, whyBoth)
		}
	}
}

func TestParsedMemory(t *testing.T) { // 16.5
	const text = "a:1|c|#b:c,d:e\na:1|c|#b:c,d:e\nu:x|s|#b:c"
	first, _, _ := statsd.Parse(text)
	second, _, _ := statsd.Parse(text)
	kept := clonePoints(second)
	for i := range first {
		spoil(first[i].Labels)
		first[i].Labels = nil
		if !areSamePoints(first[i+1:], kept[i+1:]) {
			t.Fatal("two lists are one:", first)
		}
	}
	spoil(first)
	if !areSamePoints(second, kept) {
		t.Error("two answers are one")
	}
}
