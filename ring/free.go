package ring

import (
	"slices"
	"sync"

	"abacus/api"
	"abacus/lists"
)

// Free counts lists of operations in a new window, a goroutine a list: its count at the latest time of all, where that hangs on no order.
func Free(slots int, width int64, l [][]api.RingOp) (uint64, api.Errno) {
	r, why := New(slots, width)
	switch {
	case why != api.OK:
		return 0, why
	case lists.TooMany(l):
		return 0, api.ErrMany
	}
	ops := slices.Concat(l...)
	for _, op := range ops {
		if why := check(op, width); why != api.OK {
			return 0, why
		}
	}
	if !anyOrder(slots, width, ops) {
		return 0, api.ErrMix
	}
	r.together(l)
	return r.Sum(latest(ops))
}

// anyOrder tells whether operations come to the same in whatever order: they count, no cell is turned over behind a count, and none gets full.
func anyOrder(slots int, width int64, ops []api.RingOp) bool {
	var sum uint64
	least, greatest := int64(api.MaxTick), int64(0)
	for _, op := range ops {
		if op.Kind != api.RingAdd {
			return false
		}
		tick := op.T / width
		least, greatest = min(least, tick), max(greatest, tick)
		sum += op.N
	}
	return greatest-least < int64(slots) && sum <= api.MaxTally
}

// together does lists of operations, a goroutine a list; it answers when all have ended.
func (r *Ring) together(l [][]api.RingOp) {
	var all sync.WaitGroup
	for _, list := range l {
		all.Add(1)
		go func() {
			defer all.Done()
			for _, op := range list {
				r.do(op)
			}
		}()
	}
	all.Wait()
}

// latest is the greatest time of all; 0, if there is none.
func latest(ops []api.RingOp) int64 {
	var t int64
	for _, op := range ops {
		t = max(t, op.T)
	}
	return t
}
