package alarm

import (
	"math"
	"strings"

	"abacus/api"
	"abacus/braces"
	"abacus/expo"
	"abacus/labels"
	"abacus/times"
)

// The words ahead of a rule's spans.
const (
	forWord  = "for"
	keepWord = "keep"
)

// The rules of lines: 0 stands for none that is broken.
const (
	ruleWords = 1
	ruleWant  = 2
	ruleSign  = 3
	ruleBound = 4
	ruleSpans = 5
	ruleTwice = 6 // or beyond MaxRules
)

// How many words a line has at the least, and how many may stand behind the matchers.
const (
	fewestWords = 4
	mostWords   = 6
)

// Print writes rules.
func Print(l []api.Rule) (string, api.Errno) {
	if why, _ := Check(l); why != api.OK {
		return "", why
	}
	var text strings.Builder
	for _, r := range l {
		text.WriteString(strings.Join(words(r), " "))
		text.WriteByte('\n')
	}
	return text.String(), api.OK
}

// words are those of a rule's text.
func words(r api.Rule) []string {
	want, _ := labels.PrintMatch(r.Want)
	l := []string{r.Name, want, signs()[r.Op].text, expo.Float(r.Bound)}
	return append(l, append(spanWords(forWord, r.For), spanWords(keepWord, r.Keep)...)...)
}

// spanWords tell a span: there are none of 0.
func spanWords(word string, span int64) []string {
	if span == 0 {
		return nil
	}
	text, _ := times.PrintSpan(span)
	return []string{word, text}
}

// Parse reads rules; with an error, the first fault.
func Parse(s string) ([]api.Rule, api.Errno, api.Fault) {
	var l []api.Rule
	seen := map[string]struct{}{}
	for n := 1; s != ""; n++ {
		var line string
		line, s, _ = strings.Cut(s, "\n")
		if line == "" || line[0] == '#' {
			continue
		}
		r, broken := parseRule(line)
		if _, is := seen[r.Name]; broken == 0 && (is || len(l) == api.MaxRules) {
			broken = ruleTwice
		}
		if broken != 0 {
			return nil, api.ErrRule, api.Fault{Line: n, Rule: broken}
		}
		seen[r.Name] = struct{}{}
		l = append(l, r)
	}
	return l, api.OK, api.Fault{}
}

// parseRule reads a line, or answers the rule of lines that it breaks.
func parseRule(line string) (api.Rule, int) {
	name, rest, _ := strings.Cut(line, " ")
	if strings.Count(line, " ") < fewestWords-1 || !labels.Name(name) {
		return api.Rule{}, ruleWords
	}
	want, rest, is := cutWant(rest)
	if !is {
		return api.Rule{}, ruleWant
	}
	l := strings.SplitN(rest, " ", mostWords) // where there are more, the last one has them all, and is no span
	op := opOf(l[0])
	if op == api.RuleNone {
		return api.Rule{}, ruleSign
	}
	bound, is := parseBound(l[1:])
	if !is {
		return api.Rule{}, ruleBound
	}
	pends, l := cutSpan(forWord, l[2:])
	keeps, l := cutSpan(keepWord, l)
	if len(l) > 0 {
		return api.Rule{}, ruleSpans
	}
	return api.Rule{Name: strings.Clone(name), Want: want, Op: op, Bound: bound, For: pends, Keep: keeps}, 0
}

// cutWant is the matchers at the beginning of a text, and what stands behind the blank behind them.
func cutWant(s string) ([]api.Match, string, bool) {
	if !strings.HasPrefix(s, "{") {
		return nil, "", false
	}
	n := braces.End(s)
	want, why, _ := labels.ParseMatch(s[:n]) // where they do not end, there is nothing, which is no matchers
	if why != api.OK {
		return nil, "", false
	}
	rest, is := strings.CutPrefix(s[n:], " ")
	return want, rest, is
}

func opOf(text string) api.RuleOp {
	for op, s := range signs() {
		if op := api.RuleOp(op); isOp(op) && s.text == text {
			return op
		}
	}
	return api.RuleNone
}

// parseBound reads the first word, if there is one.
func parseBound(l []string) (float64, bool) {
	if len(l) == 0 {
		return 0, false
	}
	x, is := expo.ParseFloat(l[0])
	if !is || math.IsNaN(x) {
		return 0, false
	}
	return x, true
}

// cutSpan takes a word and a span off; what is none is left, and is too much then.
func cutSpan(word string, l []string) (int64, []string) {
	if len(l) < 2 || l[0] != word {
		return 0, l
	}
	span, why, _ := times.ParseSpan(l[1])
	if why != api.OK || span == 0 {
		return 0, l
	}
	return span, l[2:]
}
