package shards_test

import (
	"math"
	"math/rand"
	"runtime"
	"slices"
	"testing"
	"time"

	"abacus/api"
	"abacus/shards"
)

type plan = [][]uint64

func TestFreeAndWatchRefuse(t *testing.T) { // 4.4, 4.5
	one := []uint64{1}
	many := slices.Repeat(plan{one}, api.MaxWorkers+1)
	for _, x := range []struct {
		name  string
		n     int
		plan  plan
		times int
		want  api.Errno
	}{
		{"no cells", 0, plan{one}, 1, api.ErrRange},
		{"cells below 0", -1, many, 1, api.ErrRange},
		{"one cell more", api.MaxWorkers + 1, plan{one}, 1, api.ErrRange},
		{"cells without end", math.MaxInt, nil, 1, api.ErrRange},
		{"times below 0", 1, plan{one}, -1, api.ErrRange},
		{"one time more", 1, many, api.MaxSteps + 1, api.ErrRange},
		{"times without end", 1, nil, math.MaxInt, api.ErrRange},
		{"one list more", 1, many, 1, api.ErrMany},
		{"one list more, all empty", 1, make(plan, api.MaxWorkers+1), 1, api.ErrMany},
		{"one number more", 1, plan{slices.Repeat(one, api.MaxSteps), one}, 1, api.ErrMany},
		{"one number more in one list", 1, plan{nil, slices.Repeat(one, api.MaxSteps+1)}, 1, api.ErrMany},
		{"one number more, of which the sum is great", 1, plan{one, slices.Repeat([]uint64{top}, api.MaxSteps)}, 1, api.ErrMany},
	} {
		if taken, left, why := shards.Free(x.n, x.plan, x.times); taken != 0 || left != 0 || why != x.want {
			t.Errorf("%s: Free: %d, %d, error %d", x.name, taken, left, why)
		}
		if ok, why := shards.Watch(x.n, x.plan, x.times); ok || why != x.want {
			t.Errorf("%s: Watch: %v, error %d", x.name, ok, why)
		}
	}
}

func TestFreeAndWatchAtTheLimits(t *testing.T) { // 4.4, 4.5
	for _, x := range []struct {
		name  string
		n     int
		plan  plan
		times int
		sum   uint64
	}{
		{"nothing", 1, nil, 0, 0},
		{"nobody, and who looks", 3, nil, 5, 0},
		{"lists that are empty", api.MaxWorkers, make(plan, api.MaxWorkers), 1, 0},
		{"all lists", 1, slices.Repeat(plan{{1, 2}}, api.MaxWorkers), 100, 3 * api.MaxWorkers},
		{"all numbers", api.MaxWorkers, plan{slices.Repeat([]uint64{3}, api.MaxSteps-1), {3}}, 100, 3 * api.MaxSteps},
		{"all times", 1, plan{{1}, {2}, {4}}, api.MaxSteps, 7},
		{"fewer lists than cells", 5, plan{{9}, {8, 7}}, 10, 24},
		{"just below 2^64", 2, plan{{1 << 63}, {1<<63 - 1}}, 100, top},
		{"2^64", 2, plan{{1 << 63}, {1<<63 - 1, 1}}, 100, 0},
		{"more than 2^64", 2, plan{{top, top}, {top, 5}}, 1000, 2},
		{"2^65", 3, plan{{1 << 63, 1 << 63}, {1 << 63, 1 << 63}}, 1000, 0},
	} {
		taken, left, why := shards.Free(x.n, x.plan, x.times)
		if taken+left != x.sum || why != api.OK {
			t.Errorf("%s: Free: %d, %d, error %d", x.name, taken, left, why)
		}
		if x.times == 0 && taken != 0 {
			t.Errorf("%s: %d was taken, and nobody takes", x.name, taken)
		}
		if ok, why := shards.Watch(x.n, x.plan, x.times); !ok || why != api.OK {
			t.Errorf("%s: Watch: %v, error %d", x.name, ok, why)
		}
	}
}

func TestFreeWithoutTakes(t *testing.T) { // 4.4, 4.7
	taken, left, why := shards.Free(2, plan{{5}, {7}, {1}}, 0)
	if taken != 0 || left != 13 || why != api.OK {
		t.Error(taken, left, why)
	}
}

// Who takes for long takes all: the adding has ended well ahead of the last Take. Should the machine have been too busy, it is tried again.
func TestFreeTakesSoManyTimes(t *testing.T) { // 4.4
	p := plan{slices.Repeat([]uint64{3}, 1<<18)}
	for range 5 {
		taken, left, why := shards.Free(api.MaxWorkers, p, api.MaxSteps)
		if taken+left != 3<<18 || why != api.OK {
			t.Fatal(taken, left, why)
		}
		if left == 0 {
			return
		}
	}
	t.Error("something is left behind all Takes")
}

// Where sums go round they fall at each of these adds: that tells nothing.
func TestWatchOfSumsThatGoRound(t *testing.T) { // 4.5
	p := plan{slices.Repeat([]uint64{top}, 1<<18), {5}}
	if ok, why := shards.Watch(api.MaxWorkers, p, api.MaxSteps); !ok || why != api.OK {
		t.Error(ok, why)
	}
}

func TestFreeLosesNothing(t *testing.T) { // 4.4, 4.5, 4.9
	r := rand.New(rand.NewSource(4))
	for range 200 {
		var want uint64
		var p plan
		for range r.Intn(10) {
			var l []uint64
			for range r.Intn(200) {
				x := uint64(r.Intn(1000))
				want += x
				l = append(l, x)
			}
			p = append(p, l)
		}
		n, times := 1+r.Intn(8), r.Intn(300)
		if taken, left, why := shards.Free(n, p, times); taken+left != want || why != api.OK {
			t.Fatalf("%d cells, %d takes: %d, %d, error %d, want %d", n, times, taken, left, why, want)
		}
		if ok, why := shards.Watch(n, p, times); !ok || why != api.OK {
			t.Fatalf("%d cells, %d times: %v, error %d", n, times, ok, why)
		}
	}
}

func TestFreeLeavesAllAsItWas(t *testing.T) { // 4.6
	before := runtime.NumGoroutine()
	p := slices.Repeat(plan{{1, 2, 3}}, api.MaxWorkers)
	for range 20 {
		shards.Free(7, p, 10)
		shards.Watch(7, p, 10)
	}
	for _, l := range p {
		if !slices.Equal(l, []uint64{1, 2, 3}) {
			t.Fatal("what was handed in is changed:", l)
		}
	}
	for tries := 0; runtime.NumGoroutine() > before; tries++ { // one that has ended is counted for a moment more
		if tries == 1000 {
			t.Fatal("goroutines are left:", runtime.NumGoroutine()-before)
		}
		time.Sleep(time.Millisecond)
	}
}
