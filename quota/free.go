package quota

import "abacus/api"

// Free has so many goroutines take so often each, and give back; then those who were refused try again, one after another: how many were taken, and what is left.
func Free(limit, batch int64, workers, each int) (int64, int64, api.Errno) {
	q, why := New(limit, batch, workers)
	if why != api.OK {
		return 0, 0, why
	}
	if each < 0 || each > api.MaxSteps/api.MaxWorkers {
		return 0, 0, api.ErrRange
	}
	var sum int64
	for worker, given := range q.together(each) {
		again := q.takes(worker, each-given)
		sum += int64(given + again)
	}
	return sum, q.Left(), api.OK
}

// together has all workers take so often each, on goroutines: how many each was given. It answers when all have ended.
func (q *Quota) together(each int) []int {
	var tells []chan int
	for worker := range q.workers() {
		tell := make(chan int)
		tells = append(tells, tell)
		go func() {
			defer close(tell)
			tell <- q.takes(worker, each)
		}()
	}
	given := make([]int, len(tells))
	for worker, tell := range tells {
		for n := range tell { // till it is closed: its goroutine does nothing more then
			given[worker] = n
		}
	}
	return given
}

// takes takes up to so often for a worker, till it is refused, and gives back what it holds: how many it was given.
func (q *Quota) takes(worker, times int) int {
	given := 0
	for given < times {
		if took, _ := q.Take(worker); !took {
			break
		}
		given++
	}
	q.Back(worker)
	return given
}
