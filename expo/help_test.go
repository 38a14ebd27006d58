package expo_test

import (
	"math"
	"math/rand"
	"reflect"
	"slices"
	"strconv"
	"strings"
	"testing"

	"abacus/api"
	"abacus/expo"
)

// of are labels, of names and values.
func of(words ...string) []api.Label {
	var l []api.Label
	for i := 0; i+1 < len(words); i += 2 {
		l = append(l, api.Label{Name: words[i], Value: words[i+1]})
	}
	return l
}

func sample(name string, value float64, words ...string) api.Sample {
	return api.Sample{Name: name, Labels: of(words...), Value: value}
}

func timed(s api.Sample, t int64) api.Sample {
	s.Time, s.Timed = t, true
	return s
}

func family(name string, kind api.MetricKind, l ...api.Sample) api.Family {
	return api.Family{Name: name, Kind: kind, Samples: l}
}

func helped(f api.Family, help string) api.Family {
	f.Help = help
	return f
}

// histogram is a right one, of one point.
func histogram(name string) api.Family {
	return family(name, api.MetricHistogram, sample(name+"_bucket", 1, "le", "1"), sample(name+"_bucket", 2, "le", "+Inf"), sample(name+"_sum", 5), sample(name+"_count", 2))
}

func checks(t *testing.T, l []api.Family, why api.Errno, at, rule int) {
	t.Helper()
	if e, i, n := expo.Check(l); e != why || i != at || n != rule {
		t.Errorf("Check(%v): error %d, family %d, rule %d, want error %d, family %d, rule %d", l, e, i, n, why, at, rule)
	}
}

// breaks holds that a family alone breaks a rule first: 0 is none.
func breaks(t *testing.T, f api.Family, rule int) {
	t.Helper()
	why := api.OK
	if rule > 0 {
		why = api.ErrFamily
	}
	checks(t, []api.Family{f}, why, 0, rule)
}

func prints(t *testing.T, l []api.Family, want string) {
	t.Helper()
	if text, why := expo.Print(l); text != want || why != api.OK {
		t.Errorf("Print(%v): %q, error %d, want %q", l, text, why, want)
	}
}

func parses(t *testing.T, s string, want ...api.Family) {
	t.Helper()
	l, why, at := expo.Parse(s)
	if why != api.OK || at != (api.Fault{}) || !isSame(l, want) || !expo.Same(l, want) {
		t.Errorf("Parse(%.300q): %v, error %d at %v, want %v", s, l, why, at, want)
	}
}

func refuses(t *testing.T, s string, line, rule int) {
	t.Helper()
	l, why, at := expo.Parse(s)
	if l != nil || why != api.ErrExpo || at != (api.Fault{Line: line, Rule: rule}) {
		t.Errorf("Parse(%.300q): %v, error %d at %v, want line %d, rule %d", s, l, why, at, line, rule)
	}
}

// plain is a list in which nil and empty lists, and floats of the same bits, are one.
func plain(l []api.Family) [][]any {
	var all [][]any
	for _, f := range l {
		one := []any{f.Name, f.Help, f.Kind}
		for _, s := range f.Samples {
			bits := math.Float64bits(s.Value)
			if s.Value != s.Value {
				bits = 0x7ff8000000000001
			}
			one = append(one, s.Name, append([]api.Label{}, s.Labels...), bits, s.Time, s.Timed)
		}
		all = append(all, one)
	}
	return all
}

// isSame tells by the library whether lists are the same.
func isSame(a, b []api.Family) bool {
	return reflect.DeepEqual(plain(a), plain(b))
}

func clone(l []api.Family) []api.Family {
	l = slices.Clone(l)
	for i := range l {
		l[i].Samples = slices.Clone(l[i].Samples)
		for j := range l[i].Samples {
			l[i].Samples[j].Labels = slices.Clone(l[i].Samples[j].Labels)
		}
	}
	return l
}

// spoil writes over all that a list has, its spare room too.
func spoil[T any](l []T) {
	l = l[:cap(l)]
	clear(l)
}

// someFloat is any float: small ones, whole ones, any bits, the ends of all.
func someFloat(r *rand.Rand) float64 {
	switch r.Intn(6) {
	case 0:
		return math.Float64frombits(r.Uint64())
	case 1:
		return float64(r.Intn(2000000)) - 100
	case 2:
		return r.NormFloat64() * math.Pow(10, float64(r.Intn(30)-15))
	case 3:
		ends := []float64{0, math.Copysign(0, -1), math.Inf(1), math.Inf(-1), math.NaN(), math.MaxFloat64, -math.MaxFloat64, math.SmallestNonzeroFloat64, 1 << 53, 0x1p-1022}
		return ends[r.Intn(len(ends))]
	}
	return float64(r.Intn(10))
}

func someText(r *rand.Rand, n int) string {
	pieces := []string{"x", "y", "é", "\\", "\n", "\"", " ", "\t", "{", "}", "#", "n", "😀", ",", "=", "\r", "\x00"}
	text := ""
	for range n {
		text += pieces[r.Intn(len(pieces))]
	}
	return text
}

// someSet is a set of labels whose names are a to c.
func someSet(r *rand.Rand) []api.Label {
	var l []api.Label
	for _, name := range []string{"a", "b", "c"} {
		if r.Intn(3) == 0 {
			l = append(l, api.Label{Name: name, Value: someText(r, 1+r.Intn(2))})
		}
	}
	return l
}

func someSample(r *rand.Rand, name string, set []api.Label, value float64) api.Sample {
	s := api.Sample{Name: name, Labels: set, Value: value}
	if r.Intn(3) == 0 {
		s = timed(s, []int64{0, 1, int64(r.Intn(1000)), math.MaxInt64}[r.Intn(4)])
	}
	return s
}

// with is a set with a label more, where it belongs.
func with(set []api.Label, name, value string) []api.Label {
	l := append(slices.Clone(set), api.Label{Name: name, Value: value})
	slices.SortFunc(l, func(a, b api.Label) int { return strings.Compare(a.Name, b.Name) })
	return l
}

// someSets are sets that are unlike.
func someSets(r *rand.Rand) [][]api.Label {
	var l [][]api.Label
	for range r.Intn(4) {
		set := someSet(r)
		if !slices.ContainsFunc(l, func(o []api.Label) bool { return slices.Equal(o, set) }) {
			l = append(l, set)
		}
	}
	return l
}

// somePoints are the samples of a right histogram.
func somePoints(r *rand.Rand, name string) []api.Sample {
	var l []api.Sample
	for _, set := range someSets(r) {
		var bounds []float64
		for range r.Intn(4) {
			if x := someFloat(r); x == x {
				bounds = append(bounds, x)
			}
		}
		slices.Sort(bounds)
		bounds = slices.Compact(append(bounds, math.Inf(1)))
		n := 0.0
		for _, x := range bounds {
			n += float64(r.Intn(4))
			l = append(l, someSample(r, name+"_bucket", with(set, "le", strconv.FormatFloat(x, 'g', -1, 64)), n))
		}
		at := r.Intn(len(l) + 1)
		l = slices.Insert(l, at, someSample(r, name+"_count", set, n))
		l = slices.Insert(l, r.Intn(len(l)+1), someSample(r, name+"_sum", set, someFloat(r)))
	}
	return l
}

// someFamily is a right one.
func someFamily(r *rand.Rand, name string) api.Family {
	f := api.Family{Name: name, Kind: api.MetricKind(1 + r.Intn(5))}
	if r.Intn(2) == 0 {
		f.Help = strings.Trim(someText(r, r.Intn(6)), " \t")
	}
	if f.Kind == api.MetricHistogram {
		f.Samples = somePoints(r, name)
		return f
	}
	for _, set := range someSets(r) {
		s := someSample(r, name, set, someFloat(r))
		if f.Kind == api.MetricSummary {
			switch r.Intn(3) {
			case 0:
				s.Labels = with(set, "quantile", []string{"0", "-0", "0.5", "1", "1e-05"}[r.Intn(5)])
			case 1:
				s.Name += "_sum"
			case 2:
				s.Name += "_count"
			}
		}
		f.Samples = append(f.Samples, s)
	}
	return f
}

// someFamilies are right ones.
func someFamilies(r *rand.Rand) []api.Family {
	var l []api.Family
	for _, name := range []string{"a", "b", "h", "a_1", "Long_name", strings.Repeat("z", 57)} {
		if r.Intn(2) == 0 {
			l = append(l, someFamily(r, name))
		}
	}
	r.Shuffle(len(l), func(i, j int) { l[i], l[j] = l[j], l[i] })
	return l
}
