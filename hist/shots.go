package hist

import (
	"slices"

	"abacus/api"
	"abacus/scale"
)

// Check tells whether a snapshot may be one of a histogram when nobody records.
func Check(s api.Scale, x api.Shot) api.Errno {
	n, why := scale.Count(s)
	switch {
	case why != api.OK:
		return why
	case len(x.Buckets) != n, x.Count != total(x.Buckets), !fits(s, x):
		return api.ErrShot
	}
	return api.OK
}

// total is modulo 2^64.
func total(buckets []uint64) uint64 {
	var sum uint64
	for _, n := range buckets {
		sum += n
	}
	return sum
}

// fits tells whether the least and the greatest number, and the sum, may be those of the buckets.
func fits(s api.Scale, x api.Shot) bool {
	first := slices.IndexFunc(x.Buckets, isSome)
	if first < 0 {
		return x.Sum == 0 && x.Least == -1 && x.Greatest == -1
	}
	last := len(x.Buckets) - 1
	for !isSome(x.Buckets[last]) {
		last--
	}
	if !isIn(s, x.Least, first) || !isIn(s, x.Greatest, last) || x.Least > x.Greatest {
		return false
	}
	alone := first == last && x.Buckets[first] == 1
	return !alone || x.Least == x.Greatest && x.Sum == uint64(x.Least)
}

func isSome(n uint64) bool {
	return n != 0
}

// isIn tells whether a number is one of the scale's, and lies in the bucket.
func isIn(s api.Scale, v int64, bucket int) bool {
	i, why := scale.Index(s, v)
	return why == api.OK && i == bucket
}

// Merge is the snapshot of all that two histograms had recorded.
func Merge(s api.Scale, x, y api.Shot) (api.Shot, api.Errno) {
	for _, shot := range []api.Shot{x, y} {
		if why := Check(s, shot); why != api.OK {
			return api.Shot{}, why
		}
	}
	both := api.Shot{
		Count:    x.Count + y.Count,
		Sum:      x.Sum + y.Sum,
		Least:    int64(min(uint64(x.Least), uint64(y.Least))), // as words: -1 stands above all numbers
		Greatest: max(x.Greatest, y.Greatest),
		Buckets:  slices.Clone(x.Buckets),
	}
	for i, n := range y.Buckets {
		both.Buckets[i] += n
	}
	return both, api.OK
}
