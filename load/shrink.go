package load

import (
	"slices"

	"abacus/api"
)

// checkGoal tells whether it may be asked if a schedule meets a goal.
func checkGoal(l api.Load, schedule []int, goal api.Goal) api.Errno {
	if why := check(l, schedule); why != api.OK {
		return why
	}
	if goal <= api.GoalNone || goal >= api.GoalCount {
		return api.ErrRange
	}
	return api.OK
}

// Meets tells whether a schedule shows something.
func Meets(l api.Load, schedule []int, goal api.Goal) (bool, api.Errno) {
	if why := checkGoal(l, schedule, goal); why != api.OK {
		return false, why
	}
	return meets(l, planOf(l), goal, schedule), api.OK
}

// meets tells whether pieces of a schedule, one behind another, show something: what is shown once stays so.
func meets(l api.Load, plan [][]api.Todo, goal api.Goal, pieces ...[]int) bool {
	c := begin(l, plan)
	for _, piece := range pieces {
		for _, worker := range piece {
			c.step(worker)
			if c.shown[goal] {
				return true
			}
		}
	}
	return false
}

// Shrink is a schedule that still does, of which no number can be left out.
func Shrink(l api.Load, schedule []int, goal api.Goal) ([]int, api.Errno) {
	if why := checkGoal(l, schedule, goal); why != api.OK {
		return nil, why
	}
	if len(schedule) > api.MaxShrink {
		return nil, api.ErrMany
	}
	plan := planOf(l)
	if !meets(l, plan, goal, schedule) {
		return nil, api.ErrGoal
	}
	left := slices.Clone(schedule)
	for {
		i := needless(l, plan, goal, left)
		if i == len(left) {
			return left, api.OK
		}
		left = slices.Delete(left, i, i+1)
	}
}

// needless is the place of the first number without which a schedule still shows something, or the count of its numbers. Of equal ones side by side whichever is left out, the rest is the same.
func needless(l api.Load, plan [][]api.Todo, goal api.Goal, schedule []int) int {
	for i, n := range schedule {
		if i > 0 && schedule[i-1] == n {
			continue
		}
		if meets(l, plan, goal, schedule[:i], schedule[i+1:]) {
			return i
		}
	}
	return len(schedule)
}
