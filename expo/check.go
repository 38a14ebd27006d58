package expo

import (
	"math"
	"strings"
	"unicode/utf8"

	"abacus/api"
	"abacus/labels"
)

// blanks may stand between words, and at a line's ends.
const blanks = " \t"

// maxWhole is up to where a bucket may count: up to there floats have every whole number.
const maxWhole = 1 << 53

// rule tells whether a family keeps it.
type rule func(api.Family) bool

// Check tells whether families may be: the number of the first one at fault, and the rule that it breaks.
func Check(l []api.Family) (api.Errno, int, int) {
	all := rules()
	for i, f := range l {
		for n, holds := range all {
			if !holds(f) {
				return api.ErrFamily, i, n + 1
			}
		}
	}
	return api.OK, 0, 0
}

// rules are those of families, in their order: each is asked of what keeps all those ahead of it.
func rules() []rule {
	return []rule{
		func(f api.Family) bool { return labels.Name(f.Name) },
		func(f api.Family) bool { return isHelp(f.Help) },
		func(f api.Family) bool { return isKind(f.Kind) },
		ofSamples(func(f api.Family, s api.Sample) bool { return isNamed(f, s.Name) }),
		ofSamples(func(_ api.Family, s api.Sample) bool { return labels.Right(s.Labels) }),
		ofSamples(isLabelled),
		ofSamples(func(_ api.Family, s api.Sample) bool { return s.Time == 0 || s.Timed && s.Time > 0 }),
		func(f api.Family) bool { return areUnlike(f.Samples) },
		func(f api.Family) bool { return f.Kind != api.MetricHistogram || hasWholePoints(f) },
		namesAreNew(),
	}
}

// ofSamples is the rule that each sample is as a function says.
func ofSamples(is func(api.Family, api.Sample) bool) rule {
	return func(f api.Family) bool {
		for _, s := range f.Samples {
			if !is(f, s) {
				return false
			}
		}
		return true
	}
}

// namesAreNew is the rule that no family of which it was asked ahead has a name of this one.
func namesAreNew() rule {
	taken := map[string]struct{}{}
	return func(f api.Family) bool {
		names := append(sampleNames(f), f.Name)
		for _, name := range names {
			if _, is := taken[name]; is {
				return false
			}
		}
		for _, name := range names {
			taken[name] = struct{}{}
		}
		return true
	}
}

func isHelp(help string) bool {
	return utf8.ValidString(help) && len(help) <= api.MaxHelp && strings.Trim(help, blanks) == help
}

// isNamed tells whether a sample of a family may have a name.
func isNamed(f api.Family, name string) bool {
	end, is := strings.CutPrefix(name, f.Name)
	if !is {
		return false
	}
	for _, e := range endings[f.Kind] {
		if e == end {
			return true
		}
	}
	return false
}

// isLabelled tells whether a sample has the label that it must have by its name, or may not have.
func isLabelled(f api.Family, s api.Sample) bool {
	var name, end string
	least, most := math.Inf(-1), math.Inf(1)
	switch f.Kind {
	case api.MetricHistogram:
		name, end = bucketLabel, bucketEnd
	case api.MetricSummary:
		name, least, most = quantileLabel, 0, 1
	default:
		return true
	}
	value, has := labels.Get(s.Labels, name)
	if s.Name != f.Name+end {
		return !has
	}
	x, is := ParseFloat(value)
	return is && Float(x) == value && least <= x && x <= most
}

// areUnlike tells whether no two samples have the same name and labels.
func areUnlike(l []api.Sample) bool {
	seen := map[series]struct{}{}
	for _, s := range l {
		seen[seriesOf(s)] = struct{}{}
	}
	return len(seen) == len(l)
}

// point is what the samples of a histogram come to whose labels, but the bucket's, are the same.
type point struct {
	buckets, sums, counts int
	bound, value          float64 // of the last bucket
	count                 float64
}

// hasWholePoints tells whether each point of a histogram has all that it must have.
func hasWholePoints(f api.Family) bool {
	points := map[string]*point{}
	for _, s := range f.Samples {
		text, _ := labels.Print(labels.Without(s.Labels, []string{bucketLabel}))
		if points[text] == nil {
			points[text] = &point{}
		}
		if !points[text].takes(s, strings.TrimPrefix(s.Name, f.Name)) {
			return false
		}
	}
	for _, p := range points {
		if !p.isWhole() {
			return false
		}
	}
	return true
}

// takes takes a sample, the name of which has an ending, and tells whether it may stand behind those ahead.
func (p *point) takes(s api.Sample, end string) bool {
	switch end {
	case sumEnd:
		p.sums++
		return true
	case countEnd:
		p.counts++
		p.count = s.Value
		return true
	}
	text, _ := labels.Get(s.Labels, bucketLabel)
	bound, _ := ParseFloat(text)
	rises := p.buckets == 0 || bound > p.bound && s.Value >= p.value
	p.buckets++
	p.bound, p.value = bound, s.Value
	return rises && isCount(s.Value)
}

// isCount tells whether a float may be what a bucket counts.
func isCount(x float64) bool {
	return x >= 0 && x <= maxWhole && x == math.Trunc(x)
}

func (p *point) isWhole() bool {
	return p.buckets > 0 && math.IsInf(p.bound, 1) && p.sums == 1 && p.counts == 1 && p.count == p.value
}
