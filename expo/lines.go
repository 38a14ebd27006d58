package expo

import (
	"strconv"
	"strings"
	"unicode/utf8"

	"abacus/api"
	"abacus/braces"
	"abacus/labels"
)

// parseHelp reads what stands behind the word of a help: a name, and a help.
func parseHelp(s string) (string, string, bool) {
	name, rest := cutWord(s)
	help, is := unescaped(rest)
	if !is || !labels.Name(name) || !utf8.ValidString(help) || len(help) > api.MaxHelp {
		return "", "", false
	}
	return name, help, true
}

// unescaped is a help that stands so in a line, if one can.
func unescaped(s string) (string, bool) {
	var help []byte
	for i := 0; i < len(s); i++ {
		c := s[i]
		if c == '\\' {
			i++
			switch {
			case i == len(s):
				return "", false
			case s[i] == 'n':
				c = '\n'
			case s[i] != '\\':
				return "", false
			}
		}
		help = append(help, c)
	}
	return string(help), true
}

// parseType reads what stands behind the word of a kind: a name, and the kind.
func parseType(s string) (string, api.MetricKind, bool) {
	name, rest := cutWord(s)
	word, more := cutWord(rest)
	kind := kindOf(word)
	if !labels.Name(name) || kind == api.MetricNone || more != "" {
		return "", api.MetricNone, false
	}
	return name, kind, true
}

// parseSample reads a sample, or answers the rule that it breaks.
func parseSample(line string) (api.Sample, int) {
	name, set, rest, is := cutSeries(line)
	if !is {
		return api.Sample{}, ruleSeries
	}
	word, rest := cutWord(rest)
	value, is := ParseFloat(word)
	if !is {
		return api.Sample{}, ruleValue
	}
	s := api.Sample{Name: strings.Clone(name), Labels: set, Value: value}
	if rest == "" {
		return s, 0
	}
	if s.Time, s.Timed = parseTime(rest); !s.Timed {
		return api.Sample{}, ruleTime
	}
	return s, 0
}

// cutSeries is the name at the beginning of a line, its labels, and what stands behind them.
func cutSeries(line string) (string, []api.Label, string, bool) {
	end := strings.IndexAny(line, blanks+"{")
	if end < 0 {
		end = len(line)
	}
	name, rest := line[:end], strings.TrimLeft(line[end:], blanks)
	if !labels.Name(name) {
		return "", nil, "", false
	}
	if !strings.HasPrefix(rest, "{") {
		return name, nil, rest, true
	}
	n := braces.End(rest)
	set, why, _ := labels.Parse(rest[:n]) // where they do not end, there is nothing, which is no set
	if why != api.OK {
		return "", nil, "", false
	}
	return name, set, rest[n:], true
}

// parseTime reads a moment: a text has one way for each.
func parseTime(s string) (int64, bool) {
	t, err := strconv.ParseInt(s, 10, 64)
	if err != nil || t < 0 || strconv.FormatInt(t, 10) != s {
		return 0, false
	}
	return t, true
}
