package shards

import (
	"math/bits"
	"sync"

	"abacus/api"
	"abacus/lists"
)

// Free has goroutines add by a plan, a list of numbers a worker, while another one takes so many times: all that was taken, and what is left.
func Free(n int, plan [][]uint64, takes int) (uint64, uint64, api.Errno) {
	if why := check(n, plan, takes); why != api.OK {
		return 0, 0, why
	}
	c, _ := New(n)
	var taken uint64
	c.together(plan, takes, func() { taken += c.Take() })
	return taken, c.Sum(), api.OK
}

// Watch has goroutines add by a plan, while another one sums so many times: whether its sums never fell.
func Watch(n int, plan [][]uint64, times int) (bool, api.Errno) {
	if why := check(n, plan, times); why != api.OK {
		return false, why
	}
	all, fits := total(plan)
	if !fits {
		return true, api.OK // sums go round, and may fall
	}
	c, _ := New(n)
	var last uint64
	rising := true
	c.together(plan, times, func() {
		sum := c.Sum()
		rising = rising && sum >= last
		last = sum
	})
	return rising && last <= all, api.OK
}

func check(n int, plan [][]uint64, times int) api.Errno {
	switch {
	case n < 1 || n > api.MaxWorkers || times < 0 || times > api.MaxSteps:
		return api.ErrRange
	case lists.TooMany(plan):
		return api.ErrMany
	}
	return api.OK
}

// total is the sum of all numbers of a plan, and whether it is below 2^64.
func total(plan [][]uint64) (uint64, bool) {
	var sum, carry uint64
	for _, numbers := range plan {
		for _, x := range numbers {
			sum, carry = bits.Add64(sum, x, 0)
			if carry > 0 {
				return 0, false
			}
		}
	}
	return sum, true
}

// together adds by a plan, a goroutine a list, while one more does something else so many times; it answers when all have ended.
func (c *Counter) together(plan [][]uint64, times int, other func()) {
	var all sync.WaitGroup
	for worker, numbers := range plan {
		all.Add(1)
		go func() {
			defer all.Done()
			for _, by := range numbers {
				c.Add(worker, by)
			}
		}()
	}
	all.Add(1)
	go func() {
		defer all.Done()
		for range times {
			other()
		}
	}()
	all.Wait()
}
