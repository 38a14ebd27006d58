package expo

import (
	"strings"

	"abacus/api"
)

// The words that tell of a family behind a #.
const (
	helpWord = "HELP"
	typeWord = "TYPE"
)

// The rules of lines: 0 stands for none that is broken.
const (
	ruleForm   = 1 // of a line that tells of a family
	ruleSeries = 2
	ruleValue  = 3
	ruleTime   = 4
	ruleAgain  = 5 // of a line that tells of a family
	ruleTwice  = 6
)

// reading is what the lines so far have told.
type reading struct {
	families []api.Family
	helped   []bool         // of each family, whether a line has told its help
	typed    []bool         // and its kind
	number   map[string]int // of each family, by its name
	owner    map[string]int // by the name of a sample, the first histogram or summary of whose samples' names it is one
	seen     map[series]struct{}
}

// Parse reads families; with an error, the first fault.
func Parse(s string) ([]api.Family, api.Errno, api.Fault) {
	r := &reading{number: map[string]int{}, owner: map[string]int{}, seen: map[series]struct{}{}}
	for n := 1; s != ""; n++ {
		var line string
		line, s, _ = strings.Cut(s, "\n")
		if broken := r.take(strings.Trim(line, blanks)); broken != 0 {
			return nil, api.ErrExpo, api.Fault{Line: n, Rule: broken}
		}
	}
	return r.families, api.OK, api.Fault{}
}

// take takes a line without blanks at its ends, and answers the rule that it breaks.
func (r *reading) take(line string) int {
	behind, is := strings.CutPrefix(line, "#")
	switch {
	case line == "":
		return 0
	case !is:
		return r.takeSample(line)
	case strings.TrimLeft(behind, blanks) == behind:
		return 0
	}
	switch word, rest := cutWord(behind); word {
	case helpWord:
		return r.takeHelp(rest)
	case typeWord:
		return r.takeType(rest)
	}
	return 0
}

// cutWord is the first word of a text, and what stands behind it, without the blanks ahead of both.
func cutWord(s string) (string, string) {
	s = strings.TrimLeft(s, blanks)
	i := strings.IndexAny(s, blanks)
	if i < 0 {
		return s, ""
	}
	return s[:i], strings.TrimLeft(s[i:], blanks)
}

func (r *reading) takeHelp(s string) int {
	name, help, is := parseHelp(s)
	if !is {
		return ruleForm
	}
	n := r.family(name)
	if r.helped[n] {
		return ruleAgain
	}
	r.helped[n] = true
	r.families[n].Help = help
	return 0
}

func (r *reading) takeType(s string) int {
	name, kind, is := parseType(s)
	if !is {
		return ruleForm
	}
	n := r.family(name)
	if r.typed[n] || len(r.families[n].Samples) > 0 {
		return ruleAgain
	}
	r.typed[n] = true
	r.families[n].Kind = kind
	r.own(n)
	return 0
}

// own has a histogram or summary own the names of its samples: the first one does, whenever its kind was told.
func (r *reading) own(n int) {
	f := r.families[n]
	if f.Kind != api.MetricHistogram && f.Kind != api.MetricSummary {
		return
	}
	for _, name := range sampleNames(f) {
		if first, is := r.owner[name]; !is || n < first {
			r.owner[name] = n
		}
	}
}

func (r *reading) takeSample(line string) int {
	s, broken := parseSample(line)
	if broken != 0 {
		return broken
	}
	key := seriesOf(s)
	if _, is := r.seen[key]; is {
		return ruleTwice
	}
	r.seen[key] = struct{}{}
	n, is := r.owner[s.Name]
	if !is {
		n = r.family(s.Name)
	}
	r.families[n].Samples = append(r.families[n].Samples, s)
	return 0
}

// family is the number of the family of a name: a new one, if none is told of.
func (r *reading) family(name string) int {
	n, is := r.number[name]
	if !is {
		n = len(r.families)
		name = strings.Clone(name)
		r.number[name] = n
		r.families = append(r.families, api.Family{Name: name, Kind: api.MetricUntyped})
		r.helped = append(r.helped, false)
		r.typed = append(r.typed, false)
	}
	return n
}
