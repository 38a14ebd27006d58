package expo_test

import (
	"math"
	"math/rand"
	"slices"
	"strings"
	"testing"
	"unicode/utf8"

	"abacus/api"
	"abacus/expo"
	"abacus/labels"
)

var kinds = []api.MetricKind{api.MetricCounter, api.MetricGauge, api.MetricHistogram, api.MetricSummary, api.MetricUntyped}

func TestCheckForm(t *testing.T) { // 15.2, rules 1 to 3
	checks(t, nil, api.OK, 0, 0)
	checks(t, []api.Family{}, api.OK, 0, 0)
	for _, kind := range kinds {
		breaks(t, family("a", kind), 0)
	}
	for _, kind := range []api.MetricKind{api.MetricNone, api.MetricCount, api.MetricCount + 1, 255} {
		breaks(t, family("a", kind), 3)
		breaks(t, family("a", kind, sample("b", 1)), 3)
	}
	for _, name := range []string{"a", "_", "A9", "_9", strings.Repeat("n", api.MaxName)} {
		breaks(t, family(name, api.MetricGauge, sample(name, 1)), 0)
	}
	for _, name := range []string{"", "9", "a-b", "a.b", "a:b", "é", "a ", " a", "a\n", "a{", "\xff", strings.Repeat("n", api.MaxName+1)} {
		breaks(t, family(name, api.MetricGauge), 1)
	}
	for _, help := range []string{"", "x", "x y", "x \t y", "\n", "\nx\n", "\\", "é", "\r", "\x00", "\v", "\u00a0", strings.Repeat("x", api.MaxHelp), strings.Repeat("é", api.MaxHelp/2), strings.Repeat("\\", api.MaxHelp), strings.Repeat("\n", api.MaxHelp)} {
		breaks(t, helped(family("a", api.MetricGauge), help), 0)
	}
	for _, help := range []string{" ", "\t", " x", "x ", "\tx", "x\t", "\n ", "\xff", "a\xc3", "\xed\xa0\x80", strings.Repeat("x", api.MaxHelp+1), strings.Repeat("é", api.MaxHelp/2) + "x"} {
		breaks(t, helped(family("a", api.MetricGauge), help), 2)
	}
}

func TestCheckNames(t *testing.T) { // 15.2, rule 4
	ends := []string{"", "_bucket", "_sum", "_count", "_total", "_", "x", "_Sum", "_sum_sum", " "}
	for _, x := range []struct {
		kind api.MetricKind
		may  []string
	}{
		{api.MetricCounter, []string{""}},
		{api.MetricGauge, []string{""}},
		{api.MetricUntyped, []string{""}},
		{api.MetricSummary, []string{"", "_sum", "_count"}},
		{api.MetricHistogram, []string{"_bucket", "_sum", "_count"}},
	} {
		for _, end := range ends {
			f := family("a", x.kind, sample("a"+end, 1))
			rule := 4
			switch {
			case !slices.Contains(x.may, end):
			case x.kind == api.MetricHistogram && end == "_bucket", x.kind == api.MetricSummary && end == "":
				rule = 6
			case x.kind == api.MetricHistogram:
				rule = 9
			default:
				rule = 0
			}
			breaks(t, f, rule)
		}
		for _, name := range []string{"", "b", "A", "_sum", "ba", "b_sum", "xa_sum"} {
			breaks(t, family("a", x.kind, sample(name, 1)), 4)
		}
	}
	breaks(t, family("a", api.MetricGauge, sample("a", 1), sample("b", 1)), 4)
	breaks(t, family("a_sum", api.MetricSummary, sample("a_sum_sum", 1)), 0)
	breaks(t, family("a_sum", api.MetricSummary, sample("a_count", 1)), 4)
	long := strings.Repeat("n", api.MaxName)
	breaks(t, family(long, api.MetricSummary, sample(long+"_sum", 1)), 0)
}

func TestCheckLabels(t *testing.T) { // 15.2, rules 5, 6
	for _, set := range [][]api.Label{of("b", "x", "a", "x"), of("a", "x", "a", "y"), of("a", ""), of("", "x"), of("1", "x"), of("a", "\xff"), of("a", strings.Repeat("x", api.MaxValue+1)), many(api.MaxLabels + 1)} {
		breaks(t, family("a", api.MetricGauge, api.Sample{Name: "a", Labels: set}), 5)
		breaks(t, family("a", api.MetricSummary, api.Sample{Name: "a", Labels: set}), 5)
	}
	for _, kind := range []api.MetricKind{api.MetricCounter, api.MetricGauge, api.MetricUntyped} {
		breaks(t, family("a", kind, sample("a", 1, "le", "x", "quantile", "y")), 0)
	}
	breaks(t, family("a", api.MetricGauge, api.Sample{Name: "a", Labels: many(api.MaxLabels)}), 0)
	summary := func(words ...string) api.Family { return family("a", api.MetricSummary, sample("a", 1, words...)) }
	for _, text := range []string{"0", "1", "0.5", "-0", "1e-05", "0.0001", "5e-324", "0.9999999999999999", "0.1"} {
		breaks(t, summary("quantile", text), 0)
		breaks(t, summary("a", "x", "quantile", text, "z", "y"), 0)
	}
	for _, text := range []string{"00", "0.0", "1.0", "+1", ".5", "0.50", "5e-1", "1e-5", "0.00001", "1.0000000000000002", "-5e-324", "2", "-1", "NaN", "+Inf", "-Inf", "x", " 0.5", "0.5 ", "+0", "0x1p-1", "1e0"} {
		breaks(t, summary("quantile", text), 6)
	}
	breaks(t, summary(), 6)
	breaks(t, summary("le", "1"), 6)
	breaks(t, summary("le", "x", "quantile", "1"), 0)
	breaks(t, family("a", api.MetricSummary, sample("a_sum", 1, "le", "x"), sample("a_count", 1, "le", "x")), 0)
	breaks(t, family("a", api.MetricSummary, sample("a_sum", 1, "quantile", "0.5")), 6)
	breaks(t, family("a", api.MetricSummary, sample("a_count", 1, "quantile", "x")), 6)
	breaks(t, family("a", api.MetricSummary, sample("a_count", 1, "a", "x", "quantile", "1")), 6)
}

func TestCheckBound(t *testing.T) { // 15.2, rule 6
	bucket := func(words ...string) api.Family {
		h := histogram("a")
		h.Samples[0].Labels = of(words...)
		return h
	}
	for _, text := range []string{"1", "0", "-0", "-Inf", "-1", "0.1", "1e+06", "999999", "1.7976931348623157e+308", "-1e-05"} {
		breaks(t, bucket("le", text), 0)
	}
	for _, text := range []string{"1.0", "01", "+1", "1e6", "1000000", "NaN", "Inf", "+inf", "+INF", "-inf", "infinity", "1e+999", "x", "1 ", "0x1", "+0", strings.Repeat("1", 65)} {
		breaks(t, bucket("le", text), 6)
	}
	breaks(t, bucket(), 6)
	breaks(t, bucket("quantile", "1"), 6)
	breaks(t, bucket("LE", "1"), 6)
	breaks(t, family("h", api.MetricHistogram, sample("h_sum", 1, "le", "1")), 6)
	breaks(t, family("h", api.MetricHistogram, sample("h_count", 1, "a", "x", "le", "+Inf")), 6)
	h := histogram("h")
	for i := range h.Samples {
		h.Samples[i].Labels = with(h.Samples[i].Labels, "quantile", "x")
	}
	breaks(t, h, 0)
}

func TestCheckTimes(t *testing.T) { // 15.2, rule 7
	for _, x := range []struct {
		time  int64
		timed bool
		rule  int
	}{{0, false, 0}, {0, true, 0}, {1, true, 0}, {math.MaxInt64, true, 0}, {-1, true, 7}, {math.MinInt64, true, 7}, {1, false, 7}, {-1, false, 7}, {math.MaxInt64, false, 7}} {
		s := sample("a", 1)
		s.Time, s.Timed = x.time, x.timed
		breaks(t, family("a", api.MetricGauge, s), x.rule)
		breaks(t, family("a", api.MetricGauge, sample("a", 1, "b", "c"), s), x.rule)
	}
}

func TestCheckTwice(t *testing.T) { // 15.2, rule 8
	breaks(t, family("a", api.MetricGauge, sample("a", 1), sample("a", 2)), 8)
	breaks(t, family("a", api.MetricGauge, sample("a", 1), timed(sample("a", 1), 5)), 8)
	breaks(t, family("a", api.MetricGauge, sample("a", 1, "b", "c"), sample("a", 1), sample("a", 2, "b", "c")), 8)
	breaks(t, family("a", api.MetricGauge, api.Sample{Name: "a", Labels: []api.Label{}}, sample("a", 2)), 8)
	breaks(t, family("a", api.MetricGauge, sample("a", 1), sample("a", 1, "b", "c"), sample("a", 1, "b", "d"), sample("a", 1, "c", "c"), sample("a", 1, "b", "c", "c", "c")), 0)
	breaks(t, family("a", api.MetricGauge, sample("a", 1, "b", `x",c="y`), sample("a", 1, "b", "x", "c", "y")), 0)
	breaks(t, family("a", api.MetricSummary, sample("a_sum", 1), sample("a_count", 1)), 0)
	breaks(t, family("a", api.MetricSummary, sample("a_sum", 1), sample("a_sum", 1)), 8)
	breaks(t, family("a", api.MetricSummary, sample("a", 1, "quantile", "0"), sample("a", 1, "quantile", "-0")), 0)
	h := histogram("h")
	breaks(t, family("h", api.MetricHistogram, append(h.Samples, sample("h_count", 2))...), 8)
	breaks(t, family("h", api.MetricHistogram, append(h.Samples, sample("h_bucket", 2, "le", "+Inf"))...), 8)
}

func TestCheckPoints(t *testing.T) { // 15.2, rule 9
	breaks(t, family("h", api.MetricHistogram), 0)
	breaks(t, histogram("h"), 0)
	bucket := func(n float64, le string) api.Sample { return sample("h_bucket", n, "le", le) }
	sum, count := sample("h_sum", math.NaN()), func(n float64) api.Sample { return sample("h_count", n) }
	whole := func(rule int, l ...api.Sample) {
		t.Helper()
		breaks(t, family("h", api.MetricHistogram, l...), rule)
	}
	const most = 1 << 53
	whole(0, bucket(0, "+Inf"), sum, count(0))
	whole(0, sum, count(3), bucket(3, "+Inf"))
	whole(0, bucket(1, "1"), sum, bucket(1, "2"), count(1), bucket(1, "+Inf"))
	whole(0, bucket(0, "-Inf"), bucket(0, "-1"), bucket(0, "-0"), bucket(most, "5e-324"), bucket(most, "+Inf"), sum, count(most))
	whole(0, bucket(math.Copysign(0, -1), "1"), bucket(0, "+Inf"), sum, count(math.Copysign(0, -1)))
	whole(0, bucket(0, "1"), bucket(math.Copysign(0, -1), "+Inf"), sum, count(0))
	whole(9, bucket(1, "1"), bucket(1, "2"), sum, count(1))
	whole(9, bucket(1, "+Inf"), bucket(1, "1"), sum, count(1))
	whole(9, bucket(1, "2"), bucket(1, "1"), bucket(1, "+Inf"), sum, count(1))
	whole(9, bucket(1, "0"), bucket(1, "-0"), bucket(1, "+Inf"), sum, count(1))
	whole(9, bucket(1, "-0"), bucket(1, "0"), bucket(1, "+Inf"), sum, count(1))
	whole(9, bucket(2, "1"), bucket(1, "+Inf"), sum, count(1))
	whole(9, bucket(1, "10"), bucket(1, "9"), bucket(1, "+Inf"), sum, count(1))
	whole(0, bucket(1, "9"), bucket(1, "10"), bucket(1, "+Inf"), sum, count(1))
	for _, x := range []float64{0.5, -1, most + 2, math.NaN(), math.Inf(1), math.Inf(-1), math.Nextafter(1, 2), -5e-324, 5e-324} {
		whole(9, bucket(x, "+Inf"), sum, count(x))
		whole(9, bucket(x, "1"), bucket(most, "+Inf"), sum, count(most))
	}
	whole(9, bucket(1, "+Inf"), sum)
	whole(9, bucket(1, "+Inf"), count(1))
	whole(9, sum, count(0))
	whole(9, sum)
	whole(9, count(0))
	whole(9, bucket(1, "+Inf"), sum, count(2))
	whole(9, bucket(1, "1"), bucket(2, "+Inf"), sum, count(1))
	whole(9, bucket(1, "+Inf"), sum, count(math.NaN()))
	of := func(s api.Sample, value string) api.Sample {
		s.Labels = with(s.Labels, "z", value)
		return s
	}
	first := []api.Sample{bucket(1, "1"), bucket(2, "+Inf"), sum, count(2)}
	second := []api.Sample{of(bucket(5, "0"), "x"), of(bucket(9, "+Inf"), "x"), of(sum, "x"), of(count(9), "x")}
	whole(0, slices.Concat(first, second)...)
	whole(0, second[0], first[0], second[2], first[1], second[1], first[2], first[3], second[3])
	for i := range second {
		rule := 9
		if i == 0 {
			rule = 0
		}
		whole(rule, slices.Concat(first, slices.Delete(slices.Clone(second), i, i+1))...)
	}
	whole(9, slices.Concat(first[:3], second[:3], []api.Sample{count(9), of(count(2), "x")})...)
	whole(9, slices.Concat(first, []api.Sample{of(sum, "y")})...)
	breaks(t, family("a", api.MetricSummary, sample("a", 2, "quantile", "1"), sample("a", 3, "quantile", "0.5"), sample("a", math.NaN(), "a", "x", "quantile", "0"), sample("a_count", -5, "b", "x")), 0)
}

func TestCheckFamilies(t *testing.T) { // 15.2, rule 10
	gauge := func(name string) api.Family { return family(name, api.MetricGauge) }
	summary := func(name string) api.Family { return family(name, api.MetricSummary) }
	empty := func(name string) api.Family { return family(name, api.MetricHistogram) }
	list := func(rule int, l ...api.Family) {
		t.Helper()
		if rule == 0 {
			checks(t, l, api.OK, 0, 0)
		} else {
			checks(t, l, api.ErrFamily, len(l)-1, rule)
		}
	}
	list(0, gauge("a"), gauge("b"), gauge("A"), gauge("a_"), gauge("a_sum"), gauge("a_count"), gauge("a_bucket"))
	list(10, gauge("a"), gauge("b"), gauge("a"))
	list(10, gauge("a"), family("a", api.MetricCounter))
	for _, end := range []string{"", "_bucket", "_sum", "_count"} {
		list(10, empty("h"), gauge("h"+end))
		list(10, gauge("h"+end), empty("h"))
		list(10, empty("h"), empty("h"+end))
		list(10, empty("h"+end), gauge("b"), empty("h"))
		list(10, histogram("h"), summary("h"+end))
	}
	list(0, empty("h"), gauge("h_"), gauge("h_Sum"), gauge("h_total"), gauge("h_sum_sum"), gauge("hh"))
	for _, end := range []string{"", "_sum", "_count"} {
		list(10, summary("h"), gauge("h"+end))
		list(10, gauge("h"+end), summary("h"))
	}
	list(0, summary("h"), gauge("h_bucket"))
	list(0, gauge("h_bucket"), summary("h"))
	list(10, summary("h_bucket"), empty("h"))
	list(10, summary("h_sum"), summary("h"))
	list(0, empty("h"), summary("h2"), gauge("h3_sum"), gauge("h3"))
}

func TestCheckOrder(t *testing.T) { // 15.2: the first family, of it the least rule
	all := func(upTo int) api.Family { // breaks the rules from upTo on, those that one family can
		s := sample("a", -1, "b", "")
		f := family("a", api.MetricHistogram, s, s)
		f.Samples[1].Time = -1
		switch {
		case upTo <= 1:
			f.Name = "1"
			fallthrough
		case upTo <= 2:
			f.Help = " "
			fallthrough
		case upTo <= 3:
			f.Kind = 0
		case upTo >= 5:
			f.Samples[0].Name, f.Samples[1].Name = "a_bucket", "a_bucket"
		}
		if upTo >= 6 {
			f.Samples[0].Labels, f.Samples[1].Labels = of("b", "x"), of("b", "x")
		}
		if upTo >= 7 {
			f.Samples[0].Labels, f.Samples[1].Labels = of("le", "1"), of("le", "1")
		}
		if upTo >= 8 {
			f.Samples[1].Time = 0
		}
		if upTo >= 9 {
			f.Samples = f.Samples[:1]
		}
		if upTo >= 10 {
			f = histogram("a")
		}
		return f
	}
	taken := family("a_sum", api.MetricGauge)
	for rule := 1; rule <= 10; rule++ {
		checks(t, []api.Family{taken, all(rule)}, api.ErrFamily, 1, rule)
		for behind := 1; behind <= 10; behind++ {
			checks(t, []api.Family{taken, all(rule), all(behind)}, api.ErrFamily, 1, rule)
		}
		checks(t, []api.Family{all(rule), taken}, api.ErrFamily, min(rule/10, 1), rule) // histogram a is right, ahead of a_sum
		if text, why := expo.Print([]api.Family{taken, all(rule)}); text != "" || why != api.ErrFamily {
			t.Errorf("Print: %q, error %d", text, why)
		}
	}
	checks(t, []api.Family{family("a", 0, sample("b", 1)), family("", api.MetricGauge)}, api.ErrFamily, 0, 3)
	bad := family("a", api.MetricGauge, api.Sample{Name: "a", Time: 5}, sample("b", 1)) // rule 7 stands ahead, the least is 4
	breaks(t, bad, 4)
}

// many are so many labels, as a set but for their number.
func many(n int) []api.Label {
	var l []api.Label
	for i := range n {
		l = append(l, api.Label{Name: "n" + string(rune('A'+i/26)) + string(rune('a'+i%26)), Value: "x"})
	}
	return l
}

// namesOf are the names that a family's samples may have.
func namesOf(f api.Family) []string {
	switch f.Kind {
	case api.MetricHistogram:
		return []string{f.Name + "_bucket", f.Name + "_sum", f.Name + "_count"}
	case api.MetricSummary:
		return []string{f.Name, f.Name + "_sum", f.Name + "_count"}
	}
	return []string{f.Name}
}

// inPoint are the samples of a family that are of one point with a sample.
func inPoint(f api.Family, s api.Sample) []api.Sample {
	var l []api.Sample
	for _, o := range f.Samples {
		if slices.Equal(labels.Without(s.Labels, []string{"le"}), labels.Without(o.Labels, []string{"le"})) {
			l = append(l, o)
		}
	}
	return l
}

// isPoint tells whether samples are a histogram's point, as the document tells it.
func isPoint(f api.Family, l []api.Sample) bool {
	var bounds, values []float64
	sums, counts := 0, 0
	var count float64
	for _, s := range l {
		switch s.Name {
		case f.Name + "_bucket":
			le, _ := labels.Get(s.Labels, "le")
			x, _ := expo.ParseFloat(le)
			bounds, values = append(bounds, x), append(values, s.Value)
		case f.Name + "_sum":
			sums++
		case f.Name + "_count":
			counts++
			count = s.Value
		}
	}
	if sums != 1 || counts != 1 || len(bounds) == 0 || bounds[len(bounds)-1] != math.Inf(1) || count != values[len(values)-1] {
		return false
	}
	for i := range bounds {
		v := values[i]
		if i > 0 && !(bounds[i-1] < bounds[i] && values[i-1] <= v) || !(v >= 0 && v <= 1<<53) || v != float64(int64(v)) {
			return false
		}
	}
	return true
}

// ruleOf is the least rule that a family breaks behind others, as the document tells them.
func ruleOf(f api.Family, ahead []api.Family) int {
	every := func(is func(api.Sample) bool) bool {
		return !slices.ContainsFunc(f.Samples, func(s api.Sample) bool { return !is(s) })
	}
	bound := func(s api.Sample) bool {
		name, own := "le", f.Name+"_bucket"
		if f.Kind == api.MetricSummary {
			name, own = "quantile", f.Name
		} else if f.Kind != api.MetricHistogram {
			return true
		}
		text, has := labels.Get(s.Labels, name)
		if s.Name != own || !has {
			return has == (s.Name == own)
		}
		x, is := expo.ParseFloat(text)
		return is && x == x && expo.Float(x) == text && (name == "le" || x >= 0 && x <= 1)
	}
	switch {
	case !labels.Name(f.Name):
		return 1
	case !utf8.ValidString(f.Help) || len(f.Help) > 256 || strings.Trim(f.Help, " \t") != f.Help:
		return 2
	case !slices.Contains(kinds, f.Kind):
		return 3
	case !every(func(s api.Sample) bool { return slices.Contains(namesOf(f), s.Name) }):
		return 4
	case !every(func(s api.Sample) bool { return labels.Right(s.Labels) }):
		return 5
	case !every(bound):
		return 6
	case !every(func(s api.Sample) bool { return s.Time >= 0 && (s.Timed || s.Time == 0) }):
		return 7
	}
	for i, s := range f.Samples {
		for _, o := range f.Samples[:i] {
			if s.Name == o.Name && slices.Equal(s.Labels, o.Labels) {
				return 8
			}
		}
	}
	if f.Kind == api.MetricHistogram && !every(func(s api.Sample) bool { return isPoint(f, inPoint(f, s)) }) {
		return 9
	}
	for _, o := range ahead {
		for _, name := range append(namesOf(o), o.Name) {
			if name == f.Name || slices.Contains(namesOf(f), name) {
				return 10
			}
		}
	}
	return 0
}

// spoilt are families of which one thing or two are changed.
func spoilt(r *rand.Rand, l []api.Family) []api.Family {
	l = clone(l)
	for range r.Intn(3) {
		if len(l) == 0 {
			return l
		}
		f := &l[r.Intn(len(l))]
		s := &api.Sample{}
		if len(f.Samples) > 0 {
			s = &f.Samples[r.Intn(len(f.Samples))]
		}
		switch r.Intn(14) {
		case 0:
			f.Name = []string{"a", "h_sum", "", "a_1_count"}[r.Intn(4)]
		case 1:
			f.Help = someText(r, 3)
		case 2:
			f.Kind = api.MetricKind(r.Intn(7))
		case 3:
			s.Name = []string{f.Name, f.Name + "_sum", f.Name + "_count", f.Name + "_bucket", "b"}[r.Intn(5)]
		case 4:
			s.Labels = with(s.Labels, []string{"a", "le", "quantile", "d"}[r.Intn(4)], []string{"1", "x", "0.5", ""}[r.Intn(4)])
		case 5:
			s.Labels = labels.Without(s.Labels, []string{[]string{"a", "le", "quantile"}[r.Intn(3)]})
		case 6:
			s.Time = int64(r.Intn(3) - 1)
		case 7:
			s.Timed = !s.Timed
		case 8:
			f.Samples = append(f.Samples, *s)
		case 9:
			s.Value = someFloat(r)
		case 10:
			r.Shuffle(len(f.Samples), func(i, j int) { f.Samples[i], f.Samples[j] = f.Samples[j], f.Samples[i] })
		case 11:
			if len(f.Samples) > 0 {
				f.Samples = f.Samples[1:]
			}
		case 12:
			s.Value += float64(r.Intn(3) - 1)
		case 13:
			l = append(l, l[r.Intn(len(l))])
		}
	}
	return l
}

func TestCheckOfAny(t *testing.T) { // 15.2, P3
	r := rand.New(rand.NewSource(3))
	var counts [11]int
	for range 60000 {
		l := spoilt(r, someFamilies(r))
		kept := clone(l)
		at, rule := 0, 0
		for i := range l {
			if rule = ruleOf(l[i], l[:i]); rule > 0 {
				at = i
				break
			}
		}
		counts[rule]++
		why := api.OK
		if rule > 0 {
			why = api.ErrFamily
		}
		checks(t, l, why, at, rule)
		if text, e := expo.Print(l); e != why || (text != "") != (why == api.OK && len(l) > 0) {
			t.Fatalf("Print(%v): %q, error %d", l, text, e)
		}
		if !isSame(l, kept) {
			t.Fatal("what was handed in is changed")
		}
		if t.Failed() {
			return
		}
	}
	for rule, n := range counts {
		if n < 50 {
			t.Errorf("of rule %d too few: %v", rule, counts)
		}
	}
}
