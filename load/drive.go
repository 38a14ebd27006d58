package load

import (
	"slices"

	"abacus/api"
)

// course is a load that is done by a schedule.
type course struct {
	on      target
	left    [][]api.Todo // what each worker has not begun yet
	now     []operation  // what each has under way; nil, if nothing
	answers [][]int64
	shown   [api.GoalCount]bool
}

func begin(l api.Load, plan [][]api.Todo) *course {
	return &course{
		on:      onto(l, plan),
		left:    slices.Clone(plan),
		now:     make([]operation, l.Workers),
		answers: make([][]int64, l.Workers),
	}
}

// step does a worker's next action; false, if there is none.
func (c *course) step(worker int) (api.Did, bool) {
	if worker < 0 || worker >= len(c.now) || !c.isBusy(worker) {
		return api.Did{}, false
	}
	did, ended := c.now[worker].Step()
	if did.Kind == api.ActCas && !did.Ok {
		c.shown[api.GoalFailed] = true
	}
	if ended {
		answer, goal := c.now[worker].end()
		c.shown[goal] = true
		c.answers[worker] = append(c.answers[worker], answer)
		c.now[worker] = nil
	}
	return did, true
}

// isBusy tells whether a worker has an operation under way; it begins the next one, if it must.
func (c *course) isBusy(worker int) bool {
	if c.now[worker] == nil && len(c.left[worker]) > 0 {
		c.now[worker] = c.on.start(c.left[worker][0])
		c.left[worker] = c.left[worker][1:]
	}
	return c.now[worker] != nil
}

// Drive does a load by a schedule.
func Drive(l api.Load, schedule []int) (api.Ran, api.Errno) {
	if why := check(l, schedule); why != api.OK {
		return api.Ran{}, why
	}
	c := begin(l, planOf(l))
	var trace []api.Event
	for _, worker := range schedule {
		if did, is := c.step(worker); is {
			trace = append(trace, api.Event{Worker: worker, Did: did})
		}
	}
	return api.Ran{Trace: trace, Words: c.on.words(), Answers: c.answers}, api.OK
}

// finish ends all operations, worker by worker; it answers whose actions that took.
func (c *course) finish() []int {
	var l []int
	for worker := range c.now {
		for {
			if _, is := c.step(worker); !is {
				break
			}
			l = append(l, worker)
		}
	}
	return l
}

// Finish is the schedule with what ends all operations behind it.
func Finish(l api.Load, schedule []int) ([]int, api.Errno) {
	if why := check(l, schedule); why != api.OK {
		return nil, why
	}
	c := begin(l, planOf(l))
	for _, worker := range schedule {
		c.step(worker)
	}
	return slices.Concat(schedule, c.finish()), api.OK
}

// End is what the cells have in the end, where that hangs on no schedule.
func End(l api.Load) ([]uint64, bool, api.Errno) {
	if why := Check(l); why != api.OK {
		return nil, false, why
	}
	if l.Kind == api.LoadTokens || l.Kind == api.LoadQuota {
		return nil, false, api.OK
	}
	c := begin(l, planOf(l))
	c.finish()
	return c.on.words(), true, api.OK
}
