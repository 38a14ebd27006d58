package once

import (
	"sync"
	"sync/atomic"

	"abacus/api"
	"abacus/lists"
)

// Free asks an empty registry for lists of metrics, a goroutine a list: all that there are then, by name, and how many asks found theirs new.
func Free(l [][]api.Ask) ([]api.Ask, int, api.Errno) {
	if why := checkAll(l); why != api.OK {
		return nil, 0, why
	}
	r := Open()
	var found atomic.Int64
	var all sync.WaitGroup
	for _, list := range l {
		all.Add(1)
		go func() {
			defer all.Done()
			for _, a := range list {
				if _, isNew, _ := r.Ask(a); isNew {
					found.Add(1)
				}
			}
		}()
	}
	all.Wait()
	return r.View().byName(), int(found.Load()), api.OK
}

func checkAll(l [][]api.Ask) api.Errno {
	if lists.TooMany(l) {
		return api.ErrMany
	}
	for _, list := range l {
		for _, a := range list {
			if why := check(a); why != api.OK {
				return why
			}
		}
	}
	return checkNames(l)
}

// checkNames tells whether a registry has room for all names, and each stands for one kind.
func checkNames(l [][]api.Ask) api.Errno {
	kinds := map[string]api.MetricKind{}
	mixed := false
	for _, list := range l {
		for _, a := range list {
			kind, is := kinds[a.Name]
			mixed = mixed || is && kind != a.Kind
			kinds[a.Name] = a.Kind
			if len(kinds) > api.MaxMetrics {
				return api.ErrMany
			}
		}
	}
	if mixed {
		return api.ErrMix
	}
	return api.OK
}
