package labels_test

import (
	"math/rand"
	"slices"
	"strings"
	"testing"
	"time"
	"unicode/utf8"

	"abacus/api"
	"abacus/labels"
)

func says(t *testing.T, pattern, s string, want bool) {
	t.Helper()
	if got := labels.Says(pattern, s); got != want {
		t.Errorf("Says(%.80q, %.80q): %v", pattern, s, got)
	}
}

func TestSays(t *testing.T) { // 12.5, 12.10, example 3
	for _, x := range []struct {
		pattern string
		yes     []string
		no      []string
	}{
		{"", []string{""}, []string{"a", " ", "\xff", "\x00"}},
		{"a", []string{"a"}, []string{"", "A", "aa", "ab", "ba", "\xff", "á"}},
		{"a*", []string{"a", "abc", "aa", "a\xff", "a\n"}, []string{"", "ba", "A"}},
		{"*", []string{"", "a", "abc", "é", "\xff\xfe", "\n", "*", fullest + fullest}, nil},
		{"**", []string{"", "a", "abc"}, nil},
		{"?", []string{"a", "é", "😀", "\xff", "\x80", "?", "\n", "\ufffd"}, []string{"", "aa", "éé", "\xff\xff", "\xc3\xff"}},
		{"??", []string{"ab", "éa", "\xe2\x82", "\xff\xff", "\xc3é"}, []string{"é", "€", "a", "abc", "\xed\xa0\x80"}},
		{"???", []string{"abc", "\xed\xa0\x80", "é€😀"}, []string{"€", "\xf0\x9f\x98\x80"}},
		{"?*", []string{"a", "ab", "\xff"}, []string{""}},
		{"*?*", []string{"a", "ab", "\xff"}, []string{""}},
		{"*a", []string{"a", "ba", "aa", "\xffa"}, []string{"", "ab"}},
		{"*ab*ab", []string{"abab", "xabyab", "ababab"}, []string{"ab", "aab", "abb", "aba"}},
		{"a*b?c", []string{"abxc", "axxbxc", "abbbc", "abbc"}, []string{"abc", "abxd"}},
		{`\*`, []string{"*"}, []string{"", "a", `\`, `\*`, "**"}},
		{`\?`, []string{"?"}, []string{"a", `\?`}},
		{`\\`, []string{`\`}, []string{"", `\\`}},
		{`\a`, []string{"a"}, []string{`\a`, ""}},
		{`\é`, []string{"é"}, []string{`\é`, "e"}},
		{`\`, []string{`\`}, []string{"", `\\`, "a"}},
		{`a\`, []string{`a\`}, []string{"a", `a\\`}},
		{`\\\`, []string{`\\`}, []string{`\`, `\\\`}},
		{`\**`, []string{"*", "*a", "**"}, []string{"", "a", "a*"}},
		{`*\`, []string{`\`, `a\`}, []string{"", "a", `\a`}},
		{"\ufffd", []string{"\ufffd"}, []string{"\xff", "\xef\xbf", ""}},
		{"é*", []string{"é", "éa"}, []string{"\xc3", "\xa9", "\xc3a"}},
		{"[a]", []string{"[a]"}, []string{"a"}},
		{".+", []string{".+"}, []string{"a"}},
		{"\n", []string{"\n"}, []string{"n", ""}},
		{fullest, []string{fullest}, []string{fullest + "v", fullest[1:]}},
		{fullest[1:] + "*", []string{fullest, fullest[1:], fullest + fullest}, []string{fullest[2:]}},
		{"\xff", nil, []string{"\xff", "", "a"}}, // no UTF-8
		{"*\xc3", nil, []string{"\xc3", "*\xc3", "a"}},
		{"\\\xff", nil, []string{"\xff"}},
		{fullest + "v", nil, []string{fullest + "v"}}, // too long
		{strings.Repeat("*", api.MaxValue+1), nil, []string{"", "a"}},
		{strings.Repeat("*", api.MaxValue), []string{"", "a", fullest + fullest}, nil},
		{strings.Repeat(`\v`, api.MaxValue/2), []string{fullest[:api.MaxValue/2]}, []string{fullest}},
	} {
		for _, s := range x.yes {
			says(t, x.pattern, s, true)
		}
		for _, s := range x.no {
			says(t, x.pattern, s, false)
		}
	}
}

// parts are a text's characters, by the document's words: each byte of a part that is no UTF-8 is one.
func parts(s string) []string {
	var l []string
	for s != "" {
		width := 1
		for n := 1; n <= min(4, len(s)); n++ {
			if utf8.ValidString(s[:n]) && utf8.RuneCountInString(s[:n]) == 1 {
				width = n
				break
			}
		}
		l = append(l, s[:width])
		s = s[width:]
	}
	return l
}

// said tells whether a pattern's characters say a text's, in all ways.
func said(pattern, text []string) bool {
	if len(pattern) == 0 {
		return len(text) == 0
	}
	switch {
	case pattern[0] == "*":
		return said(pattern[1:], text) || len(text) > 0 && said(pattern, text[1:])
	case len(text) == 0:
		return false
	case pattern[0] == "?":
		return said(pattern[1:], text[1:])
	case pattern[0] == `\` && len(pattern) > 1:
		return pattern[1] == text[0] && said(pattern[2:], text[1:])
	}
	return pattern[0] == text[0] && said(pattern[1:], text[1:])
}

// allTexts are all texts of so many pieces at most.
func allTexts(pieces []string, most int) []string {
	l := []string{""}
	from := 0
	for range most {
		until := len(l)
		for _, s := range l[from:until] {
			for _, p := range pieces {
				l = append(l, s+p)
			}
		}
		from = until
	}
	return l
}

func TestSaysOfAll(t *testing.T) { // 12.5, 12.10
	texts := allTexts([]string{"a", "é", "\xff", "*", `\`}, 4)
	split := make([][]string, len(texts))
	for i, s := range texts {
		split[i] = parts(s)
	}
	for _, pattern := range allTexts([]string{"a", "*", "?", `\`, "é"}, 4) {
		p := parts(pattern)
		for i, s := range texts {
			if want := said(p, split[i]); labels.Says(pattern, s) != want {
				t.Fatalf("Says(%q, %q): %v", pattern, s, !want)
			}
			if !strings.ContainsAny(pattern, `*?\`) && labels.Says(pattern, s) != (pattern == s) {
				t.Fatalf("Says(%q, %q): %v, with no sign", pattern, s, pattern != s)
			}
		}
	}
	r := rand.New(rand.NewSource(5))
	for range 20000 {
		var pattern string
		for range r.Intn(12) {
			pattern += []string{"a", "b", "*", "?", `\`, "é"}[r.Intn(6)]
		}
		s := bytesOfAny(r, r.Intn(5)) + strings.Repeat("ab", r.Intn(5)) + bytesOfAny(r, r.Intn(3))
		if want := said(parts(pattern), parts(s)); labels.Says(pattern, s) != want {
			t.Fatalf("Says(%q, %q): %v", pattern, s, !want)
		}
	}
}

// A pattern of many * on a long text ends soon.
func TestSaysSoon(t *testing.T) { // 12.5, P1
	began := time.Now()
	s := strings.Repeat("a", 1<<17)
	says(t, strings.Repeat("*a", api.MaxValue/2-1)+"*b", s, false)
	says(t, strings.Repeat("*a", api.MaxValue/2), s, true)
	says(t, strings.Repeat("?*", api.MaxValue/2-1)+"*b", s+"b", true)
	if took := time.Since(began); took > 20*time.Second {
		t.Error("took", took)
	}
}

// want is a matcher.
func want(name string, kind api.MatchKind, value string) api.Match {
	return api.Match{Kind: kind, Name: name, Value: value}
}

// fill are so many matchers that want what no label speaks against.
func fill(n int) []api.Match {
	return slices.Repeat([]api.Match{want("zz", api.MatchIs, "")}, n)
}

var wrongMatchers = []api.Match{
	{}, want("a", api.MatchNone, "x"), want("a", api.MatchCount, "x"), want("a", 255, "x"),
	want("", api.MatchIs, "x"), want("1", api.MatchNot, "x"), want("a-", api.MatchGlob, "x"), want(longest+"n", api.MatchElse, "x"),
	want("a", api.MatchIs, "\xff"), want("a", api.MatchNot, "x\xc3"), want("a", api.MatchGlob, "\xff*"), want("a", api.MatchElse, "\\\xff"),
	want("a", api.MatchIs, fullest+"v"), want("a", api.MatchNot, fullest+"v"), want("a", api.MatchGlob, fullest+"*"), want("a", api.MatchElse, fullest[1:]+"é"),
}

func TestMatches(t *testing.T) { // 12.5, example 4
	set := of("a", "x", "b", "yz")
	for _, x := range []struct {
		l    []api.Label
		m    []api.Match
		want bool
		why  api.Errno
	}{
		{of("a", "x"), []api.Match{want("a", api.MatchIs, "x"), want("b", api.MatchIs, "")}, true, api.OK},
		{of("a", "x"), []api.Match{want("a", api.MatchElse, "x*")}, false, api.OK},
		{set, nil, true, api.OK},
		{nil, nil, true, api.OK},
		{nil, []api.Match{want("a", api.MatchIs, "")}, true, api.OK},
		{nil, []api.Match{want("a", api.MatchNot, "")}, false, api.OK},
		{nil, []api.Match{want("a", api.MatchGlob, "")}, true, api.OK},
		{nil, []api.Match{want("a", api.MatchGlob, "*")}, true, api.OK},
		{nil, []api.Match{want("a", api.MatchGlob, "?*")}, false, api.OK},
		{nil, []api.Match{want("a", api.MatchElse, "")}, false, api.OK},
		{nil, []api.Match{want("a", api.MatchElse, "?")}, true, api.OK},
		{set, []api.Match{want("a", api.MatchIs, "x")}, true, api.OK},
		{set, []api.Match{want("a", api.MatchIs, "y")}, false, api.OK},
		{set, []api.Match{want("a", api.MatchIs, "")}, false, api.OK},
		{set, []api.Match{want("a", api.MatchIs, "?")}, false, api.OK},
		{set, []api.Match{want("a", api.MatchNot, "x")}, false, api.OK},
		{set, []api.Match{want("a", api.MatchNot, "*")}, true, api.OK},
		{set, []api.Match{want("b", api.MatchGlob, "y?"), want("a", api.MatchGlob, "x")}, true, api.OK},
		{set, []api.Match{want("b", api.MatchGlob, "y?"), want("a", api.MatchGlob, "y")}, false, api.OK},
		{set, []api.Match{want("b", api.MatchElse, "y"), want("b", api.MatchNot, "y")}, true, api.OK},
		{set, []api.Match{want("b", api.MatchElse, "y*"), want("b", api.MatchNot, "y")}, false, api.OK},
		{set, []api.Match{want("b", api.MatchGlob, "")}, false, api.OK},
		{set, []api.Match{want(longest, api.MatchElse, fullest), want(longest, api.MatchNot, fullest)}, true, api.OK},
		{set, fill(api.MaxLabels), true, api.OK},
		{set, fill(api.MaxLabels + 1), false, api.ErrMany},
		{set, append(fill(api.MaxLabels), api.Match{}), false, api.ErrMany},
		{set, append([]api.Match{want("a", api.MatchIs, "no")}, api.Match{}), false, api.ErrMatch}, // though the first one fails
		{of("b", "x", "a", "x"), fill(api.MaxLabels + 1), false, api.ErrLabel},
		{of("a", ""), []api.Match{{}}, false, api.ErrLabel},
		{many(0, api.MaxLabels+1), nil, false, api.ErrLabel},
	} {
		if got, why := labels.Matches(x.l, x.m); got != x.want || why != x.why {
			t.Errorf("Matches(%v, %.200v): %v, error %d", x.l, x.m, got, why)
		}
	}
	for _, m := range wrongMatchers {
		if got, why := labels.Matches(set, []api.Match{m}); got || why != api.ErrMatch {
			t.Errorf("Matches(%v): %v, error %d", m, got, why)
		}
		if got, why := labels.Matches(nil, append(fill(api.MaxLabels-1), m)); got || why != api.ErrMatch {
			t.Errorf("Matches(%v), the last one: %v, error %d", m, got, why)
		}
	}
}

// someMatchers are some that are right.
func someMatchers(r *rand.Rand, most int) []api.Match {
	var l []api.Match
	for range r.Intn(most + 1) {
		kind := api.MatchIs + api.MatchKind(r.Intn(4))
		l = append(l, want([]string{"A", "_", "a", "a1", "q"}[r.Intn(5)], kind, []string{"", "x", "*", "?", "é\"", "\\\n", `\\`, "?*", "é?"}[r.Intn(9)]))
	}
	return l
}

func TestMatchersOfAny(t *testing.T) { // 12.5, 12.10
	r := rand.New(rand.NewSource(6))
	ask := func(l []api.Label, m ...api.Match) bool {
		t.Helper()
		is, why := labels.Matches(l, m)
		if why != api.OK {
			t.Fatalf("Matches(%v, %v): error %d", l, m, why)
		}
		return is
	}
	for range 10000 {
		l, a, b := someSet(r), someMatchers(r, 3), someMatchers(r, 3)
		if ask(l, append(slices.Clip(a), b...)...) != (ask(l, a...) && ask(l, b...)) {
			t.Fatalf("Matches(%v) of %v, %v: not what both want", l, a, b)
		}
		for _, m := range a {
			value, _ := labels.Get(l, m.Name)
			is, not, glob, other := m, m, m, m
			is.Kind, not.Kind, glob.Kind, other.Kind = api.MatchIs, api.MatchNot, api.MatchGlob, api.MatchElse
			if ask(l, is) != (value == m.Value) || ask(l, not) == ask(l, is) || ask(l, glob) != labels.Says(m.Value, value) || ask(l, other) == ask(l, glob) {
				t.Fatalf("Matches(%v) of %v", l, m)
			}
		}
	}
}

func TestPrintMatch(t *testing.T) { // 12.6, example 4
	for _, x := range []struct {
		l    []api.Match
		want string
		why  api.Errno
	}{
		{[]api.Match{want("a", api.MatchElse, "x*")}, `{a!~"x*"}`, api.OK},
		{nil, "{}", api.OK},
		{[]api.Match{}, "{}", api.OK},
		{[]api.Match{want("b", api.MatchIs, "1"), want("a", api.MatchNot, "2"), want("a", api.MatchGlob, "3"), want("b", api.MatchIs, "")}, `{b="1",a!="2",a=~"3",b=""}`, api.OK},
		{[]api.Match{want("a", api.MatchGlob, "\\*\"\n")}, `{a=~"\\*\"\n"}`, api.OK},
		{[]api.Match{want(longest, api.MatchIs, fullest)}, "{" + longest + `="` + fullest + `"}`, api.OK},
		{fill(api.MaxLabels), "{" + strings.Repeat(`zz="",`, api.MaxLabels-1) + `zz=""}`, api.OK},
		{fill(api.MaxLabels + 1), "", api.ErrMany},
		{append(fill(api.MaxLabels), api.Match{}), "", api.ErrMany},
	} {
		if got, why := labels.PrintMatch(x.l); got != x.want || why != x.why {
			t.Errorf("PrintMatch(%v): %q, error %d, want %q, error %d", x.l, got, why, x.want, x.why)
		}
	}
	for _, m := range wrongMatchers {
		if got, why := labels.PrintMatch([]api.Match{want("a", api.MatchIs, "x"), m}); got != "" || why != api.ErrMatch {
			t.Errorf("PrintMatch(%v): %q, error %d", m, got, why)
		}
	}
}

func reads(t *testing.T, s string, l []api.Match, why api.Errno, at int) {
	t.Helper()
	if got, e, i := labels.ParseMatch(s); !slices.Equal(got, l) || e != why || i != at {
		t.Errorf("ParseMatch(%.400q): %v, error %d at %d, want %v, error %d at %d", s, got, e, i, l, why, at)
	}
}

func TestParseMatch(t *testing.T) { // 12.6
	reads(t, "{}", nil, api.OK, 0)
	reads(t, `{a!~"x*"}`, []api.Match{want("a", api.MatchElse, "x*")}, api.OK, 0)
	reads(t, `{b="",a!="2",a=~"\\*",b="\n\""}`, []api.Match{want("b", api.MatchIs, ""), want("a", api.MatchNot, "2"), want("a", api.MatchGlob, `\*`), want("b", api.MatchIs, "\n\"")}, api.OK, 0)
	reads(t, "{"+longest+`=~"`+fullest+`"}`, []api.Match{want(longest, api.MatchGlob, fullest)}, api.OK, 0)
	for _, x := range []struct {
		text string
		at   int
	}{
		{"", 0}, {"a", 0}, {`a="x"`, 0},
		{"{", 1}, {"{,}", 1}, {`{="x"}`, 1}, {`{1="x"}`, 1}, {`{!="x"}`, 1},
		{"{a", 2}, {"{a}", 2}, {`{a"x"}`, 2}, {`{a ="x"}`, 2}, {`{a~"x"}`, 2}, {`{a<"x"}`, 2},
		{"{a=", 3}, {"{a=}", 3}, {`{a=="x"}`, 3}, {`{a=!"x"}`, 3}, {`{a= "x"}`, 3}, {"{a!", 3}, {`{a!"x"}`, 3}, {`{a!!"x"}`, 3}, {`{a! ="x"}`, 3}, {"{a!\xff", 3},
		{"{a!=", 4}, {`{a!==`, 4}, {`{a!=~"x"}`, 4}, {"{a=~", 4}, {`{a=~~`, 4}, {`{a=~ "x"}`, 4}, {`{a!~x}`, 4}, {`{a!~=`, 4},
		{`{a="`, 4}, {`{a!="`, 5}, {`{a="\q"}`, 5}, {`{a=~"\*"}`, 6}, {`{a=~"\?"}`, 6}, {"{a=~\"\n\"}", 5}, {"{a=~\"\xff\"}", 5}, {"{a=~\"*\xe2\x82", 6}, {`{a=~"\`, 6},
		{`{a=""`, 5}, {`{a="""`, 5}, {`{a="",`, 6}, {`{a="",}`, 6}, {`{a="" }`, 5}, {`{a=~"x";`, 7},
		{"{}x", 2}, {`{a=""}}`, 6}, {`{a=""} `, 6},
		{"{" + longest + `n="x"}`, 1 + api.MaxName},
		{"{" + longest, 1 + api.MaxName},
		{`{a=~"` + fullest + `v"}`, 5 + api.MaxValue},
		{`{a=~"` + fullest[1:] + `é"}`, 5 + api.MaxValue},
		{`{a=~"` + strings.Repeat(`\\`, api.MaxValue) + `\\"}`, 5 + 2*api.MaxValue},
	} {
		reads(t, x.text, nil, api.ErrLabel, x.at)
	}
	full, _ := labels.PrintMatch(fill(api.MaxLabels))
	reads(t, full, fill(api.MaxLabels), api.OK, 0)
	open := strings.TrimSuffix(full, "}")
	for _, sign := range []string{"=", "!=", "=~", "!~"} {
		for _, more := range []string{`"x"}`, "", "x", `"\q`} {
			reads(t, open+",a"+sign+more, nil, api.ErrMany, len(open)+1)
		}
	}
	reads(t, open+",", nil, api.ErrLabel, len(open)+1)
	reads(t, open+",a", nil, api.ErrLabel, len(open)+2)
	reads(t, open+",a!", nil, api.ErrLabel, len(open)+3)
	reads(t, open+",a!x", nil, api.ErrLabel, len(open)+3)
}

// listIn are the matchers of a text, if it is a text of such.
func listIn(text string) ([]api.Match, bool) {
	if !utf8.ValidString(text) || !listForm.MatchString(text) {
		return nil, false
	}
	var l []api.Match
	for _, x := range matchForm.FindAllStringSubmatch(text, -1) {
		kind := map[string]api.MatchKind{"=": api.MatchIs, "!=": api.MatchNot, "=~": api.MatchGlob, "!~": api.MatchElse}[x[2]]
		l = append(l, want(x[1], kind, plain.Replace(x[3])))
	}
	return l, true
}

func TestMatchersText(t *testing.T) { // 12.6, 12.8, P13
	r := rand.New(rand.NewSource(7))
	right := 0
	texts := map[string][]api.Match{}
	for range 40000 {
		l := someMatchers(r, 4)
		text, why := labels.PrintMatch(l)
		if why != api.OK {
			t.Fatalf("PrintMatch(%v): error %d", l, why)
		}
		reads(t, text, l, api.OK, 0)
		if other, is := texts[text]; is && !slices.Equal(other, l) {
			t.Fatalf("%v and %v have one text", l, other)
		}
		texts[text] = l
		text = changed(r, text)
		got, why, at := labels.ParseMatch(text)
		in, is := listIn(text)
		if is {
			right++
			reads(t, text, in, api.OK, 0)
			again, _ := labels.PrintMatch(got)
			reads(t, again, got, api.OK, 0)
			continue
		}
		isText := func(s string) bool { _, is := listIn(s); return is }
		if why != api.ErrLabel || got != nil || !isFault(text, at, isText) {
			t.Fatalf("ParseMatch(%q): %v, error %d at %d", text, got, why, at)
		}
	}
	if right < 1000 || right > 39000 {
		t.Error("of the changed texts are right:", right)
	}
}

func TestNothingIsChanged(t *testing.T) { // 12.7
	l := []api.Match{want("b", api.MatchIs, "1"), want("a", api.MatchGlob, "*")}
	kept := slices.Clone(l)
	text, _ := labels.PrintMatch(l)
	labels.Matches(of("a", "x"), l)
	if !slices.Equal(l, kept) {
		t.Error("what was handed in is changed:", l)
	}
	got, _, _ := labels.ParseMatch(text)
	clear(got)
	reads(t, text, kept, api.OK, 0)
}
