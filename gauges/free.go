package gauges

import (
	"math"
	"slices"
	"sync"

	"abacus/api"
	"abacus/lists"
)

// exact is the amount up to which all whole numbers are floats, so that their sums are not rounded.
const exact = 1 << 53

// Free does lists of operations, a goroutine a list: what the gauge has at the end, where that hangs on no order.
func Free(start float64, l [][]api.GaugeOp) (float64, api.Errno) {
	switch {
	case lists.TooMany(l):
		return 0, api.ErrMany
	case !anyOrder(start, slices.Concat(l...)):
		return 0, api.ErrMix
	}
	g := New()
	g.Set(start)
	var all sync.WaitGroup
	for _, list := range l {
		all.Add(1)
		go func() {
			defer all.Done()
			for _, op := range list {
				g.do(op)
			}
		}()
	}
	all.Wait()
	return g.Get(), api.OK
}

// anyOrder tells whether a gauge that has start comes to the same by these operations, in whatever order.
func anyOrder(start float64, ops []api.GaugeOp) bool {
	if len(ops) == 0 {
		return true
	}
	kind := ops[0].Kind
	for _, op := range ops {
		if op.Kind != kind {
			return false
		}
	}
	switch kind {
	case api.GaugeMax, api.GaugeMin:
		return true
	case api.GaugeAdd:
		return sumsExact(start, ops)
	}
	return false
}

// sumsExact tells whether no sum of start and some X is rounded: all are whole numbers, and their amounts come to no more than exact.
func sumsExact(start float64, ops []api.GaugeOp) bool {
	left, whole := lessAmount(exact, start)
	for _, op := range ops {
		if !whole {
			return false
		}
		left, whole = lessAmount(left, op.X)
	}
	return whole
}

// lessAmount is left less the amount of x; false, if that is no whole number from 0 to left.
func lessAmount(left int64, x float64) (int64, bool) {
	amount := math.Abs(x)
	if math.Trunc(amount) != amount || amount > exact || int64(amount) > left {
		return 0, false
	}
	return left - int64(amount), true
}
