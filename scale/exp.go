package scale

import (
	"math"
	"math/bits"

	"abacus/api"
)

// Exp is the bucket of a float on the exponential scale of a schema.
func Exp(schema int, x float64) (api.ExpAt, api.Errno) {
	switch {
	case !isSchema(schema):
		return api.ExpAt{}, api.ErrRange
	case math.IsNaN(x) || math.IsInf(x, 0):
		return api.ExpAt{}, api.ErrFloat
	case x == 0:
		return api.ExpAt{}, api.OK
	case x < 0:
		return api.ExpAt{Sign: -1, Index: bucket(schema, -x)}, api.OK
	}
	return api.ExpAt{Sign: 1, Index: bucket(schema, x)}, api.OK
}

// Upper is the greatest finite float that is at most the upper bound of a bucket.
func Upper(schema int, index int) (float64, api.Errno) {
	first, last, why := Ends(schema)
	switch {
	case why != api.OK:
		return 0, why
	case index < first-1 || index > last:
		return 0, api.ErrRange
	}
	return greatest(func(x float64) bool {
		return bucket(schema, x) <= index
	}), api.OK
}

// Ends are the least and the greatest number that a bucket has.
func Ends(schema int) (int, int, api.Errno) {
	if !isSchema(schema) {
		return 0, 0, api.ErrRange
	}
	return bucket(schema, math.SmallestNonzeroFloat64), bucket(schema, math.MaxFloat64), api.OK
}

// Coarser is the bucket of the next lower schema.
func Coarser(index int) int {
	return index>>1 + index&1 // half of it, rounded up
}

func isSchema(schema int) bool {
	return schema >= api.MinSchema && schema <= api.MaxSchema
}

// greatest is the greatest finite float that is within, or 0, if none above 0 is; within holds up to one float and of none above it. The bits of such floats rise as they do: so each place of the bits, from the highest on, is 1 if what is made by that is within as yet.
func greatest(within func(x float64) bool) float64 {
	var found uint64
	for place := 62; place >= 0; place-- {
		more := found | 1<<place
		if x := math.Float64frombits(more); x <= math.MaxFloat64 && within(x) {
			found = more
		}
	}
	return math.Float64frombits(found)
}

// bucket is the bucket of a finite float above 0. It is found by the finest schema, as buckets of coarser ones are made of whole ones of that.
func bucket(schema int, x float64) int {
	part, power := apart(x)
	index := power<<api.MaxSchema + root(part)
	for range api.MaxSchema - schema {
		index = Coarser(index)
	}
	return index
}

// one is 1, as a number with 63 bits behind the point.
const one = 1 << 63

// apart takes a finite float above 0 apart: a part from 1 to below 2, and the power of two that it is taken times.
func apart(x float64) (uint64, int) {
	const behind, bias = 52, 1023 // bits behind the point; what is added to the power
	word := math.Float64bits(x)
	part, power := word&(1<<behind-1), int(word>>behind)
	if power > 0 {
		part |= 1 << behind
	} else {
		power = 1 // the least floats have the power of the next ones, but no 1 ahead of the point
	}
	shift := bits.LeadingZeros64(part)
	return part << shift, power - bias + 63 - behind - shift
}

// root is the least i so that a part is at most the i-th power of the finest schema's root of 2.
//
// Each square doubles the logarithm: if it is 2 or more, the next bit of that is 1. A square is rounded down to a word; all eight roundings are as if the part were less by not as much as 2^-61. As no part but 1 lies within 2^-60 of a power of the root, no bit is another one by that.
func root(part uint64) int {
	if part == one {
		return 0
	}
	i := 0
	for range api.MaxSchema {
		part, _ = bits.Mul64(part, part)
		i <<= 1
		if part >= one {
			i++ // the word has 62 bits behind the point now: so it is the half, with 63
		} else {
			part <<= 1
		}
	}
	return i + 1 // what is no power of the root lies above the last one below it
}
