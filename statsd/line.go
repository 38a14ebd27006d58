package statsd

import (
	"strings"

	"abacus/api"
	"abacus/labels"
)

// The rules of a line: 0 stands for none that is broken.
const (
	ruleForm  = 1
	ruleType  = 2
	ruleValue = 3
	ruleParts = 4
	ruleRate  = 5
	ruleTags  = 6
)

// Line reads a line: the point, or the number of the rule that it breaks.
func Line(s string) (api.Point, int) {
	if len(s) > api.MaxLine || strings.Contains(s, lineBreak) {
		return api.Point{}, ruleForm
	}
	parts := strings.Split(s, partSign)
	name, value, is := strings.Cut(parts[0], nameSign)
	if !is || !isName(name) || len(parts) < 2 {
		return api.Point{}, ruleForm
	}
	p := api.Point{Kind: kindOf(parts[1]), Name: strings.Clone(name), Weight: 1}
	if p.Kind == api.PointNone {
		return api.Point{}, ruleType
	}
	if !takeValue(&p, value) {
		return api.Point{}, ruleValue
	}
	if broken := takeParts(&p, parts[2:]); broken != 0 {
		return api.Point{}, broken
	}
	return p, 0
}

// takeValue takes a value, if it is one of the point's kind.
func takeValue(p *api.Point, s string) bool {
	if p.Kind == api.PointSet {
		p.Text = strings.Clone(s)
		return isText(s)
	}
	digits, below := strings.CutPrefix(s, "-")
	above := false
	if !below {
		digits, above = strings.CutPrefix(s, "+")
	}
	switch {
	case above && p.Kind != api.PointGauge, below && p.Kind != api.PointGauge && p.Kind != api.PointCount:
		return false
	case p.Kind == api.PointGauge:
		p.Rel = above || below
	}
	amount, is := amountOf(digits)
	if below {
		amount = -amount
	}
	p.Value = amount
	return is
}

// takeParts takes what stands behind a line's type, and answers the rule that is broken.
func takeParts(p *api.Point, parts []string) int {
	var rate, tags string
	var hasRate, hasTags bool
	if len(parts) > 0 {
		rate, hasRate = strings.CutPrefix(parts[0], rateSign)
	}
	if hasRate {
		parts = parts[1:]
	}
	if len(parts) > 0 {
		tags, hasTags = strings.CutPrefix(parts[0], tagsSign)
	}
	if hasTags {
		parts = parts[1:]
	}
	switch {
	case len(parts) > 0:
		return ruleParts
	case hasRate && !takeRate(p, rate):
		return ruleRate
	case hasTags && !takeTags(p, tags):
		return ruleTags
	}
	return 0
}

// takeRate takes a rate, if the point may have it.
func takeRate(p *api.Point, s string) bool {
	rate, is := rateOf(s)
	if !is || !isSampled(p.Kind) {
		return false
	}
	p.Weight = weightOf(rate)
	return true
}

// takeTags takes tags, if they may be. (Their values are without the signs that may not stand in them, as these part what is read; a tag of a name alone has an empty value, which is none.)
func takeTags(p *api.Point, s string) bool {
	var l []api.Label
	for _, tag := range strings.Split(s, tagSign) {
		name, value, _ := strings.Cut(tag, nameSign)
		l = append(l, api.Label{Name: name, Value: value})
	}
	set, why, _ := labels.Make(l)
	p.Labels = set
	return why == api.OK
}

// Parse reads lines; with an error, the first fault.
func Parse(s string) ([]api.Point, api.Errno, api.Fault) {
	lines := strings.Count(s, lineBreak)
	if s != "" && !strings.HasSuffix(s, lineBreak) {
		lines++
	}
	if lines > api.MaxLines {
		return nil, api.ErrMany, api.Fault{}
	}
	var points []api.Point
	for n := 1; s != ""; n++ {
		var line string
		line, s, _ = strings.Cut(s, lineBreak)
		if line == "" {
			continue
		}
		p, broken := Line(line)
		if broken != 0 {
			return nil, api.ErrLine, api.Fault{Line: n, Rule: broken}
		}
		points = append(points, p)
	}
	return points, api.OK, api.Fault{}
}

// Print writes a point.
func Print(p api.Point) (string, api.Errno) {
	if !Right(p) {
		return "", api.ErrPoint
	}
	text := p.Name + nameSign + valueText(p) + partSign + types[p.Kind]
	if p.Weight > 1 {
		text += partSign + rateSign + numberOf(shortestRate(p.Weight))
	}
	var tags []string
	for _, l := range p.Labels {
		tags = append(tags, l.Name+nameSign+l.Value)
	}
	if len(tags) > 0 {
		text += partSign + tagsSign + strings.Join(tags, tagSign)
	}
	return text, api.OK
}

// valueText is the value of a point as it stands in a line.
func valueText(p api.Point) string {
	switch {
	case p.Kind == api.PointSet:
		return p.Text
	case p.Value < 0:
		return "-" + numberOf(-p.Value)
	case p.Rel:
		return "+" + numberOf(p.Value)
	}
	return numberOf(p.Value)
}
