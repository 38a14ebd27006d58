package expo_test

import (
	"math"
	"math/rand"
	"testing"

	"abacus/api"
	"abacus/expo"
)

func TestPrint(t *testing.T) { // 15.2, example 2
	prints(t, nil, "")
	a := helped(family("a", api.MetricCounter, timed(sample("a", 3, "b", "c"), 5)), "x")
	prints(t, []api.Family{a}, "# HELP a x\n# TYPE a counter\na{b=\"c\"} 3 5\n")
	for kind, word := range map[api.MetricKind]string{api.MetricCounter: "counter", api.MetricGauge: "gauge", api.MetricHistogram: "histogram", api.MetricSummary: "summary", api.MetricUntyped: "untyped"} {
		prints(t, []api.Family{family("a", kind)}, "# TYPE a "+word+"\n")
	}
	prints(t, []api.Family{helped(family("b", api.MetricGauge), "\\ \n\"é\\n"), a}, "# HELP b \\\\ \\n\"é\\\\n\n# TYPE b gauge\n# HELP a x\n# TYPE a counter\na{b=\"c\"} 3 5\n")
	prints(t, []api.Family{histogram("h")}, "# TYPE h histogram\nh_bucket{le=\"1\"} 1\nh_bucket{le=\"+Inf\"} 2\nh_sum 5\nh_count 2\n")
	prints(t, []api.Family{family("g", api.MetricGauge,
		sample("g", math.NaN()),
		sample("g", math.Inf(1), "a", "\\\"\n"),
		sample("g", math.Inf(-1), "a", "x", "b", " "),
		timed(sample("g", math.Copysign(0, -1), "a", "y"), 0),
		timed(sample("g", 1e6, "a", "z"), math.MaxInt64),
		sample("g", 0.1, "b", "}"),
	)}, "# TYPE g gauge\ng NaN\ng{a=\"\\\\\\\"\\n\"} +Inf\ng{a=\"x\",b=\" \"} -Inf\ng{a=\"y\"} -0 0\ng{a=\"z\"} 1e+06 9223372036854775807\ng{b=\"}\"} 0.1\n")
	prints(t, []api.Family{{Name: "a", Kind: api.MetricGauge, Samples: []api.Sample{{Name: "a", Labels: []api.Label{}}}}}, "# TYPE a gauge\na 0\n")
	for rule, f := range []api.Family{family("", api.MetricGauge), helped(family("a", api.MetricGauge), " "), family("a", 0), family("a", api.MetricGauge, sample("b", 1)), family("a", api.MetricGauge, sample("a", 1, "b", ""))} {
		if text, why := expo.Print([]api.Family{a, f}); text != "" || why != api.ErrFamily {
			t.Errorf("Print of what breaks the rule %d: %q, error %d", rule+1, text, why)
		}
	}
}

func TestSame(t *testing.T) { // 15.2
	same := func(a, b []api.Family, want bool) {
		t.Helper()
		if expo.Same(a, b) != want || expo.Same(b, a) != want {
			t.Errorf("Same(%v, %v) is not %v", a, b, want)
		}
	}
	same(nil, nil, true)
	same(nil, []api.Family{}, true)
	same(nil, []api.Family{{}}, false)
	same([]api.Family{{}}, []api.Family{{Samples: []api.Sample{}}}, true)
	same([]api.Family{{Samples: []api.Sample{{}}}}, []api.Family{{Samples: []api.Sample{{Labels: []api.Label{}}}}}, true)
	value := func(x float64) []api.Family { return []api.Family{family("a", 77, sample("\xff", x))} }
	same(value(math.NaN()), value(math.Float64frombits(0xfff0000000000003)), true)
	same(value(0), value(math.Copysign(0, -1)), false)
	same(value(math.NaN()), value(0), false)
	same(value(1), value(math.Nextafter(1, 2)), false)
	same(value(math.Inf(1)), value(math.Inf(1)), true)
	base := func() []api.Family {
		return []api.Family{helped(histogram("h"), "x"), family("a", api.MetricGauge, timed(sample("a", 1, "b", "c", "d", "e"), 5), sample("a", 1))}
	}
	same(base(), base(), true)
	for i, change := range []func(l []api.Family) []api.Family{
		func(l []api.Family) []api.Family { return l[:1] },
		func(l []api.Family) []api.Family { return append(l, api.Family{}) },
		func(l []api.Family) []api.Family { return []api.Family{l[1], l[0]} },
		func(l []api.Family) []api.Family { l[0].Name = "i"; return l },
		func(l []api.Family) []api.Family { l[0].Help = ""; return l },
		func(l []api.Family) []api.Family { l[0].Kind = api.MetricSummary; return l },
		func(l []api.Family) []api.Family { l[0].Samples = l[0].Samples[:3]; return l },
		func(l []api.Family) []api.Family {
			l[1].Samples[1], l[1].Samples[0] = l[1].Samples[0], l[1].Samples[1]
			return l
		},
		func(l []api.Family) []api.Family { l[1].Samples[0].Name = "b"; return l },
		func(l []api.Family) []api.Family { l[1].Samples[0].Labels[0].Name = "c"; return l },
		func(l []api.Family) []api.Family { l[1].Samples[0].Labels[1].Value = "f"; return l },
		func(l []api.Family) []api.Family { l[1].Samples[0].Labels = of("d", "e", "b", "c"); return l },
		func(l []api.Family) []api.Family { l[1].Samples[0].Labels = of("b", "c"); return l },
		func(l []api.Family) []api.Family { l[1].Samples[0].Value = 2; return l },
		func(l []api.Family) []api.Family { l[1].Samples[0].Time = 6; return l },
		func(l []api.Family) []api.Family { l[1].Samples[0].Timed = false; return l },
		func(l []api.Family) []api.Family { l[1].Samples[1].Timed = true; return l },
	} {
		if l := change(base()); expo.Same(l, base()) || expo.Same(base(), l) {
			t.Errorf("the change %d is not seen: %v", i, l)
		}
	}
	r := rand.New(rand.NewSource(7))
	for range 20000 {
		l := someFamilies(r)
		o := spoilt(r, l)
		same(l, o, isSame(l, o))
		if t.Failed() {
			return
		}
	}
}
