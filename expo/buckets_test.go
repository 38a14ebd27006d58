package expo_test

import (
	"math"
	"math/rand"
	"strings"
	"testing"

	"abacus/api"
	"abacus/expo"
)

func buckets(t *testing.T, set []api.Label, bounds []float64, counts []uint64, sum float64, want ...api.Sample) {
	t.Helper()
	f, why := expo.Buckets("h", set, bounds, counts, sum)
	if l := []api.Family{family("h", api.MetricHistogram, want...)}; why != api.OK || !isSame([]api.Family{f}, l) {
		t.Errorf("Buckets(%v, %v, %v): %v, error %d, want %v", set, bounds, counts, f, why, l)
	}
}

func TestBuckets(t *testing.T) { // 15.4, 15.9, example 4
	bucket := func(n float64, le string) api.Sample { return sample("h_bucket", n, "le", le) }
	buckets(t, nil, []float64{1, 2.5}, []uint64{3, 4, 5}, 20, bucket(3, "1"), bucket(7, "2.5"), bucket(12, "+Inf"), sample("h_sum", 20), sample("h_count", 12))
	buckets(t, []api.Label{}, nil, []uint64{0}, math.NaN(), bucket(0, "+Inf"), sample("h_sum", math.NaN()), sample("h_count", 0))
	buckets(t, nil, []float64{math.Inf(-1), -1e6, math.Copysign(0, -1), 1e-5}, []uint64{1, 0, 0, 2, 0}, math.Inf(-1), bucket(1, "-Inf"), bucket(1, "-1e+06"), bucket(1, "-0"), bucket(3, "1e-05"), bucket(3, "+Inf"), sample("h_sum", math.Inf(-1)), sample("h_count", 3))
	buckets(t, of("a", "x", "z", "y"), []float64{1}, []uint64{1, 1}, 0,
		sample("h_bucket", 1, "a", "x", "le", "1", "z", "y"), sample("h_bucket", 2, "a", "x", "le", "+Inf", "z", "y"), sample("h_sum", 0, "a", "x", "z", "y"), sample("h_count", 2, "a", "x", "z", "y"))
	buckets(t, of("m", "x"), nil, []uint64{2}, 0, sample("h_bucket", 2, "le", "+Inf", "m", "x"), sample("h_sum", 0, "m", "x"), sample("h_count", 2, "m", "x"))
	buckets(t, of("a", "x"), nil, []uint64{2}, 0, sample("h_bucket", 2, "a", "x", "le", "+Inf"), sample("h_sum", 0, "a", "x"), sample("h_count", 2, "a", "x"))
	buckets(t, of("quantile", "x"), nil, []uint64{2}, 0, sample("h_bucket", 2, "le", "+Inf", "quantile", "x"), sample("h_sum", 0, "quantile", "x"), sample("h_count", 2, "quantile", "x"))
	const most = 1 << 53
	buckets(t, nil, []float64{1}, []uint64{most - 1, 1}, 0, bucket(most-1, "1"), bucket(most, "+Inf"), sample("h_sum", 0), sample("h_count", most))
}

func TestBucketsRefused(t *testing.T) { // 15.4
	inf, none := math.Inf(1), math.NaN()
	refused := func(name string, set []api.Label, bounds []float64, counts []uint64) {
		t.Helper()
		f, why := expo.Buckets(name, set, bounds, counts, 1)
		if why != api.ErrFamily || !isSame([]api.Family{f}, []api.Family{{}}) {
			t.Errorf("Buckets(%.80q, %v, %v, %v): %v, error %d", name, set, bounds, counts, f, why)
		}
	}
	for _, counts := range [][]uint64{nil, {}, {1}, {1, 2}, {1, 2, 3, 4}} {
		refused("h", nil, []float64{1, 2}, counts)
	}
	refused("h", nil, nil, nil)
	refused("h", nil, nil, []uint64{1, 2})
	for _, bounds := range [][]float64{{none, 1}, {1, none}, {1, inf}, {inf, inf}, {1, 1}, {2, 1}, {0, math.Copysign(0, -1)}, {math.Copysign(0, -1), 0}, {math.Inf(-1), math.Inf(-1)}, {inf, 1}} {
		refused("h", nil, bounds, []uint64{1, 2, 3})
	}
	const most = 1 << 53
	for _, counts := range [][]uint64{{most + 1, 0, 0}, {0, 0, most + 1}, {most, 1, 0}, {most, 0, 1}, {math.MaxUint64, 0, 0}, {math.MaxUint64, 1, 0}, {1 << 63, 1 << 63, 5}, {most, most, most}, {1, math.MaxUint64, 0}} {
		refused("h", nil, []float64{1, 2}, counts)
	}
	for _, name := range []string{"", "1", "a-b", "é", strings.Repeat("n", api.MaxName+1)} {
		refused(name, nil, nil, []uint64{1})
	}
	for _, set := range [][]api.Label{of("b", "x", "a", "y"), of("a", "x", "a", "y"), of("a", ""), of("", "x"), of("a", "\xff"), of("le", "x"), of("le", "1"), of("le", "+Inf"), of("a", "x", "le", "+Inf"), many(api.MaxLabels), many(api.MaxLabels + 1), append(of("le", "1"), many(api.MaxLabels-1)...)} {
		refused("h", set, nil, []uint64{1})
		refused("h", set, []float64{1, 2}, []uint64{1, 2, 3})
	}
	long := strings.Repeat("n", api.MaxName)
	if f, why := expo.Buckets(long, many(api.MaxLabels-1), nil, []uint64{1}, 1); why != api.OK || f.Name != long || len(f.Samples[0].Labels) != api.MaxLabels {
		t.Error("a full set:", why)
	}
}

func TestBucketsMemory(t *testing.T) { // 15.5
	set, bounds, counts := of("a", "x", "z", "y"), []float64{1, 2}, []uint64{1, 2, 3}
	f, _ := expo.Buckets("h", set, bounds, counts, 1)
	kept := clone([]api.Family{f})
	for i := range f.Samples {
		spoil(f.Samples[i].Labels)
		f.Samples[i].Labels, kept[0].Samples[i].Labels = nil, nil
		if !isSame([]api.Family{f}, kept) {
			t.Fatal("two lists are one:", f)
		}
	}
	if set[0] != (api.Label{Name: "a", Value: "x"}) || set[1] != (api.Label{Name: "z", Value: "y"}) || bounds[1] != 2 || counts[2] != 3 {
		t.Error("what was handed in is changed")
	}
	g, _ := expo.Buckets("h", set, bounds, counts, 1)
	kept = clone([]api.Family{g})
	set[0].Value, bounds[0], counts[0] = "q", 7, 7
	if !isSame([]api.Family{g}, kept) {
		t.Error("what was handed in is kept")
	}
}

func TestBucketsOfAny(t *testing.T) { // 15.4, 15.9
	r := rand.New(rand.NewSource(8))
	right := 0
	for range 20000 {
		set := someSet(r)
		if r.Intn(10) == 0 {
			set = with(set, "le", "1")
		}
		bounds, counts := make([]float64, r.Intn(4)), make([]uint64, 1+r.Intn(4))
		for i := range bounds {
			bounds[i] = someFloat(r)
		}
		for i := range counts {
			counts[i] = uint64(r.Int63()) >> r.Intn(64)
		}
		is := len(counts) == len(bounds)+1
		var all float64
		want := family("h", api.MetricHistogram)
		for i, n := range counts {
			x := math.Inf(1)
			if i < len(bounds) {
				x = bounds[i]
				is = is && x < math.Inf(1) && (i == 0 || bounds[i-1] < x)
			}
			all += float64(n) // exact as long as it counts
			want.Samples = append(want.Samples, api.Sample{Name: "h_bucket", Labels: with(set, "le", expo.Float(x)), Value: all})
		}
		want.Samples = append(want.Samples, api.Sample{Name: "h_sum", Labels: set, Value: 2.5}, api.Sample{Name: "h_count", Labels: set, Value: all})
		is = is && all <= 1<<53 && ruleOf(want, nil) == 0
		f, why := expo.Buckets("h", set, bounds, counts, 2.5)
		if is {
			right++
			if why != api.OK || !isSame([]api.Family{f}, []api.Family{want}) {
				t.Fatalf("Buckets(%v, %v, %v): %v, error %d, want %v", set, bounds, counts, f, why, want)
			}
			breaks(t, f, 0)
		} else if why != api.ErrFamily || f.Samples != nil || f.Name != "" || f.Kind != 0 {
			t.Fatalf("Buckets(%v, %v, %v): %v, error %d", set, bounds, counts, f, why)
		}
	}
	if right < 1000 {
		t.Error("too few are right:", right)
	}
}
