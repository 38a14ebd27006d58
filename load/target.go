package load

import "abacus/api"

// target is what a load is put on.
type target interface {
	start(todo api.Todo) operation  // one whose first action is done at once
	call(worker int, todo api.Todo) // all actions of one, by a plain call
	words() []uint64
	held() bool // when all calls have been made: whether all that must hold did
}

// operation is done action by action.
type operation interface {
	Step() (api.Did, bool)
	end() (int64, api.Goal) // when its last action was done: what it answers, and which goal, if any, that shows
}

// onto is the thing, made anew, on which a load is put.
func onto(l api.Load, plan [][]api.Todo) target {
	w := work{load: l, plan: plan, given: make([]int64, l.Workers)}
	switch l.Kind {
	case api.LoadShards:
		return newShards(w)
	case api.LoadTokens:
		return newTokens(w)
	case api.LoadQuota:
		return newQuota(w)
	}
	return newSnap(w)
}

// work is what all things have on which a load is put.
type work struct {
	load  api.Load
	plan  [][]api.Todo
	given []int64 // how many tokens each worker was given, by plain calls
}

// each looks at all operations, worker by worker.
func (w *work) each(look func(worker int, todo api.Todo)) {
	for worker, list := range w.plan {
		for _, todo := range list {
			look(worker, todo)
		}
	}
}

// give writes down that a worker was given tokens: each has a place of its own, as all do so at one time.
func (w *work) give(worker int, n int64) {
	w.given[worker] += n
}

// gave is how many tokens all were given.
func (w *work) gave() int64 {
	var sum int64
	for _, n := range w.given {
		sum += n
	}
	return sum
}
