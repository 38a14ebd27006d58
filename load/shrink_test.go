package load_test

import (
	"math/rand"
	"slices"
	"testing"

	"abacus/api"
	"abacus/load"
)

func isTakeOfOne(_ int, todo api.Todo) bool {
	return todo.Token.Kind == api.TokenTake && todo.Token.N == 1
}

func TestExample(t *testing.T) { // examples 1, 2, 3
	if x, next := load.Next(0); x != 0xe220a8397b1dcdaf || next != 0x9e3779b97f4a7c15 {
		t.Errorf("Next(0): %x, %x", x, next)
	}
	if l, why := load.Random(0, 2, 1); !slices.Equal(l, []int{1}) || why != api.OK {
		t.Error("Random:", l, why)
	}
	prints(t, []int{0, 1, 1}, "0 1 1", api.OK)
	parses(t, "0  1", api.ErrSchedule, 2)
	l := seeded(t, api.Load{Kind: api.LoadTokens, Workers: 2, Each: 1, Size: 1}, isTakeOfOne)
	if is, why := load.Meets(l, []int{0, 1, 0, 1}, api.GoalFailed); !is || why != api.OK {
		t.Error("Meets:", is, why)
	}
	shrinks(t, l, []int{0, 1, 0, 1, 0, 1}, api.GoalFailed, api.OK, 0, 1, 0, 1)
}

func TestShrinkByHand(t *testing.T) { // 28.4
	l := seeded(t, api.Load{Kind: api.LoadTokens, Workers: 3, Each: 1, Size: 1}, isTakeOfOne)
	shrinks(t, l, []int{0, 1, 2, 0, 1, 2}, api.GoalFailed, api.OK, 1, 2, 1, 2)
	shrinks(t, l, []int{9, 0, -1, 1, 64, 0, 1, 1}, api.GoalFailed, api.OK, 0, 1, 0, 1)
	shrinks(t, l, []int{0, 0, 0, 1, 1, 1}, api.GoalFailed, api.ErrGoal)
	shrinks(t, l, nil, api.GoalFailed, api.ErrGoal)
	shrinks(t, l, []int{0, 1, 0, 1}, api.GoalCrossed, api.ErrGoal)
	shrinks(t, l, []int{0, 1, 0, 1}, api.GoalDisturbed, api.ErrGoal)
	far := seeded(t, api.Load{Kind: api.LoadTokens, Workers: 1, Each: 1, Size: 1}, func(_ int, todo api.Todo) bool { return todo.Token.N == 2 })
	shrinks(t, far, []int{5, 0, 0, 0}, api.GoalRefused, api.OK, 0)
	sum := seeded(t, api.Load{Kind: api.LoadShards, Workers: 2, Each: 1, Size: 2}, func(worker int, todo api.Todo) bool {
		return todo.Shard.Kind == []api.ShardKind{api.ShardSum, api.ShardAdd}[worker]
	})
	shrinks(t, sum, []int{1, 0, 0}, api.GoalCrossed, api.ErrGoal)
	shrinks(t, sum, []int{0, 0, 1}, api.GoalCrossed, api.ErrGoal)
	shrinks(t, sum, []int{0, 1, 1, 0, 0}, api.GoalCrossed, api.OK, 0, 1, 0)
}

func TestGoalsThatAreNone(t *testing.T) { // 28.4
	for kind := api.LoadShards; kind < api.LoadKinds; kind++ {
		l := api.Load{Kind: kind, Seed: 5, Workers: 2, Each: 3, Size: 1}
		for _, goal := range []api.Goal{api.GoalNone, api.GoalCount, 255} {
			for _, schedule := range [][]int{nil, {0, 1, 0, 1}, make([]int, api.MaxShrink+1), make([]int, api.MaxSteps)} {
				if got, why := load.Meets(l, schedule, goal); got || why != api.ErrRange {
					t.Errorf("Meets(.., %d): %v, error %d", goal, got, why)
				}
				shrinks(t, l, schedule, goal, api.ErrRange)
			}
		}
	}
}

func TestShrinkAtTheLimit(t *testing.T) { // 28.4
	l := seeded(t, api.Load{Kind: api.LoadTokens, Workers: 2, Each: 1, Size: 1}, isTakeOfOne)
	schedule := append(make([]int, api.MaxShrink-4), 1, 1, 1, 1)
	shrinks(t, l, append([]int{0}, schedule...), api.GoalFailed, api.ErrMany) // and it does not meet the goal
	shrinks(t, l, schedule, api.GoalFailed, api.ErrGoal)
	schedule = append([]int{0, 1, 0}, schedule[:api.MaxShrink-3]...)
	schedule[len(schedule)-1] = 1
	shrinks(t, l, append(slices.Clone(schedule), 1), api.GoalFailed, api.ErrMany) // though it meets the goal
	shrinks(t, l, schedule, api.GoalFailed, api.OK, 1, 0, 0, 1)
}

func TestShrinkOfAnySchedule(t *testing.T) { // 28.4, 28.9
	r := rand.New(rand.NewSource(7))
	found := [api.GoalCount]int{}
	for range 6000 {
		l := someLoad(r)
		schedule := someSchedule(r, l, r.Intn(40))
		if r.Intn(3) == 0 {
			schedule = runs(r, schedule)
		}
		goal := someGoal(r, l)
		plan := planned(t, l)
		m := driven(l, plan, schedule)
		m.close()
		if !m.shown[goal] {
			shrinks(t, l, schedule, goal, api.ErrGoal)
			continue
		}
		found[goal]++
		shrinks(t, l, schedule, goal, api.OK, shrunk(l, plan, schedule, goal)...)
		if t.Failed() {
			t.FailNow()
		}
	}
	for _, goal := range goals {
		if found[goal] < 20 {
			t.Errorf("the goal %d was met %d times", goal, found[goal])
		}
	}
}

// someGoal is most often one that such a load may show.
func someGoal(r *rand.Rand, l api.Load) api.Goal {
	switch {
	case r.Intn(8) == 0:
		return goals[r.Intn(len(goals))]
	case l.Kind == api.LoadShards:
		return api.GoalCrossed
	case l.Kind == api.LoadSnap:
		return api.GoalDisturbed
	}
	return goals[r.Intn(2)]
}

// runs has each number of a schedule a few times.
func runs(r *rand.Rand, schedule []int) []int {
	var l []int
	for _, n := range schedule {
		l = append(l, slices.Repeat([]int{n}, 1+r.Intn(3))...)
	}
	return l
}

// stands tells whether numbers stand in a schedule, in their order.
func stands(l, schedule []int) bool {
	for _, n := range schedule {
		if len(l) > 0 && l[0] == n {
			l = l[1:]
		}
	}
	return len(l) == 0
}

func TestShrunkSchedulesAreLeast(t *testing.T) { // 28.9
	r := rand.New(rand.NewSource(8))
	for kind, goal := range map[api.LoadKind]api.Goal{api.LoadShards: api.GoalCrossed, api.LoadTokens: api.GoalRefused, api.LoadQuota: api.GoalFailed, api.LoadSnap: api.GoalDisturbed} {
		for range 5 {
			l := api.Load{Kind: kind, Seed: r.Uint64(), Workers: 4, Each: 10, Size: 5}
			schedule, _ := load.Random(r.Uint64(), 4, 400)
			old := slices.Clone(schedule)
			got, why := load.Shrink(l, schedule, goal)
			if why == api.ErrGoal {
				continue
			}
			if is, _ := load.Meets(l, got, goal); !is || why != api.OK || !stands(got, schedule) || len(got) == 0 {
				t.Fatalf("%v, %v: %v, error %d", l, schedule, got, why)
			}
			for i := range got {
				if is, _ := load.Meets(l, slices.Concat(got[:i], got[i+1:]), goal); is {
					t.Fatalf("%v, %v: %v can do without number %d", l, schedule, got, i)
				}
			}
			spoil(got, 77)
			if !slices.Equal(schedule, old) {
				t.Fatal("what was handed in is changed")
			}
		}
	}
}
