package load

import (
	"sync"

	"abacus/api"
)

// Free does a load by goroutines: whether all that must hold held.
func Free(l api.Load) (bool, api.Errno) {
	if why := Check(l); why != api.OK {
		return false, why
	}
	plan := planOf(l)
	on := onto(l, plan)
	var all sync.WaitGroup
	for worker, list := range plan {
		all.Add(1)
		go func() {
			defer all.Done()
			for _, todo := range list {
				on.call(worker, todo)
			}
		}()
	}
	all.Wait()
	return on.held(), api.OK
}
