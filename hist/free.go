package hist

import (
	"sync"

	"abacus/api"
	"abacus/lists"
)

// Free has goroutines record lists of numbers: the snapshot when all have ended.
func Free(s api.Scale, l [][]int64) (api.Shot, api.Errno) {
	h, why := New(s)
	switch {
	case why != api.OK:
		return api.Shot{}, why
	case lists.TooMany(l):
		return api.Shot{}, api.ErrMany
	case !inRange(s, l):
		return api.Shot{}, api.ErrRange
	}
	var all sync.WaitGroup
	for _, list := range l {
		all.Add(1)
		go func() {
			defer all.Done()
			for _, v := range list {
				h.Record(v, 1)
			}
		}()
	}
	all.Wait()
	return h.Show(), api.OK
}

// inRange tells whether all numbers are on the scale.
func inRange(s api.Scale, l [][]int64) bool {
	for _, list := range l {
		for _, v := range list {
			if v < 0 || v > s.Highest {
				return false
			}
		}
	}
	return true
}
