package load_test

import (
	"math"
	"math/rand"
	"reflect"
	"slices"
	"testing"

	"abacus/api"
	"abacus/load"
)

var goals = []api.Goal{api.GoalFailed, api.GoalRefused, api.GoalDisturbed, api.GoalCrossed}

// wrongLoads are loads that may not be, each for one reason.
func wrongLoads() map[string]api.Load {
	return map[string]api.Load{
		"nothing":                        {},
		"no kind":                        {Workers: 1, Each: 1, Size: 1},
		"a kind beyond":                  {Kind: api.LoadKinds, Workers: 1, Each: 1, Size: 1},
		"a kind far beyond":              {Kind: 255, Workers: 1, Each: 1, Size: 1},
		"nobody":                         {Kind: api.LoadShards, Each: 1, Size: 1},
		"fewer than nobody":              {Kind: api.LoadShards, Workers: -1, Each: 1, Size: 1},
		"one worker more":                {Kind: api.LoadTokens, Workers: api.MaxWorkers + 1, Each: 1, Size: 1},
		"far too many":                   {Kind: api.LoadSnap, Workers: math.MaxInt, Each: 1, Size: 1},
		"operations below 0":             {Kind: api.LoadQuota, Workers: 1, Each: -1, Size: 1},
		"one more each":                  {Kind: api.LoadQuota, Workers: 1, Each: api.MaxEach + 1, Size: 1},
		"far too many each":              {Kind: api.LoadSnap, Workers: 1, Each: math.MaxInt, Size: 1},
		"no size":                        {Kind: api.LoadShards, Workers: 1, Each: 1},
		"no size, though it is not used": {Kind: api.LoadSnap, Workers: 1, Each: 1},
		"a size below 0":                 {Kind: api.LoadTokens, Workers: 1, Each: 1, Size: math.MinInt},
		"one size more":                  {Kind: api.LoadQuota, Workers: 1, Each: 1, Size: api.MaxSize + 1},
		"far too great":                  {Kind: api.LoadSnap, Workers: 1, Each: 1, Size: math.MaxInt},
	}
}

// someLoad is a right load by chance, with few workers.
func someLoad(r *rand.Rand) api.Load {
	return api.Load{
		Kind:    api.LoadKind(1 + r.Intn(4)),
		Seed:    r.Uint64(),
		Workers: 1 + r.Intn(5),
		Each:    r.Intn(6),
		Size:    1 + r.Intn(1+r.Intn(10)),
	}
}

// someSchedule has some numbers of no worker, too.
func someSchedule(r *rand.Rand, l api.Load, n int) []int {
	var schedule []int
	for range n {
		schedule = append(schedule, r.Intn(l.Workers))
		if r.Intn(20) == 0 {
			schedule = append(schedule, []int{-1, l.Workers, 64, math.MinInt, math.MaxInt}[r.Intn(5)])
		}
	}
	return schedule
}

func planned(t *testing.T, l api.Load) [][]api.Todo {
	t.Helper()
	plan, why := load.Plan(l)
	if why != api.OK || len(plan) != l.Workers {
		t.Fatalf("Plan(%v): %d lists, error %d", l, len(plan), why)
	}
	return plan
}

func sameRan(a, b api.Ran) bool {
	return slices.Equal(a.Trace, b.Trace) && slices.Equal(a.Words, b.Words) && slices.EqualFunc(a.Answers, b.Answers, slices.Equal)
}

func isNone(x any) bool {
	return reflect.ValueOf(x).IsZero()
}

// seeded is a load with a seed by which each worker's first operation is as asked.
func seeded(t *testing.T, l api.Load, is func(worker int, todo api.Todo) bool) api.Load {
	t.Helper()
	for ; l.Seed < 1<<20; l.Seed++ {
		fits := true
		for worker, list := range planned(t, l) {
			fits = fits && is(worker, list[0])
		}
		if fits {
			return l
		}
	}
	t.Fatal("no seed is found")
	return l
}

func shrinks(t *testing.T, l api.Load, schedule []int, goal api.Goal, why api.Errno, want ...int) {
	t.Helper()
	if got, no := load.Shrink(l, schedule, goal); !slices.Equal(got, want) || no != why {
		t.Errorf("Shrink(%v, %v, %d): %v, error %d, want %v, error %d", l, schedule, goal, got, no, want, why)
	}
}

// spoil overwrites a list, and its spare room.
func spoil[T any](l []T, x T) {
	l = l[:cap(l)]
	for i := range l {
		l[i] = x
	}
}
