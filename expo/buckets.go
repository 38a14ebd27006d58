package expo

import (
	"math"
	"strings"

	"abacus/api"
	"abacus/labels"
)

// Buckets is a histogram family of counts up to bounds, with a sum.
func Buckets(name string, labels []api.Label, bounds []float64, counts []uint64, sum float64) (api.Family, api.Errno) {
	if len(counts) != len(bounds)+1 || !areWithin(counts, maxWhole) {
		return api.Family{}, api.ErrFamily
	}
	h := api.Family{Name: strings.Clone(name), Kind: api.MetricHistogram}
	var all uint64
	for i, n := range counts {
		all += n
		bound := math.Inf(1)
		if i < len(bounds) {
			bound = bounds[i]
		}
		h.Samples = append(h.Samples, sampleOf(name+bucketEnd, labels, float64(all), api.Label{Name: bucketLabel, Value: Float(bound)}))
	}
	h.Samples = append(h.Samples, sampleOf(name+sumEnd, labels, sum), sampleOf(name+countEnd, labels, float64(all)))
	if why, _, _ := Check([]api.Family{h}); why != api.OK { // so are bounds that may not be
		return api.Family{}, why
	}
	return h, api.OK
}

// areWithin tells whether counts come to at most so many.
func areWithin(counts []uint64, most uint64) bool {
	for _, n := range counts {
		if n > most {
			return false
		}
		most -= n
	}
	return true
}

// sampleOf is a sample with a set of labels, and further ones. Where the labels may not be it has none: a bucket without its own one breaks a rule.
func sampleOf(name string, set []api.Label, value float64, more ...api.Label) api.Sample {
	all, _ := labels.Merge(set, more)
	return api.Sample{Name: name, Labels: all, Value: value}
}
