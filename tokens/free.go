package tokens

import (
	"sync"

	"abacus/api"
)

// Free has so many goroutines take one token so often each, all at one moment: how many were given.
func Free(every, burst int64, workers, each int, at int64) (int64, api.Errno) {
	b, why := New(every, burst)
	if why != api.OK {
		return 0, why
	}
	if workers < 1 || workers > api.MaxWorkers || each < 0 || each > api.MaxSteps/api.MaxWorkers || !moment(at) {
		return 0, api.ErrRange
	}
	given := make([]int64, workers)
	var all sync.WaitGroup
	for worker := range given {
		all.Add(1)
		go func() {
			defer all.Done()
			given[worker] = b.takes(at, each)
		}()
	}
	all.Wait()
	var sum int64
	for _, n := range given {
		sum += n
	}
	return sum, api.OK
}

// takes takes one token so many times: how many were given.
func (b *Bucket) takes(at int64, times int) int64 {
	var given int64
	for range times {
		if took, _ := b.Take(at, 1); took.Ok {
			given++
		}
	}
	return given
}
