package sem_test

import (
	"math"
	"runtime"
	"testing"
	"time"

	"abacus/api"
	"abacus/sem"
)

func TestFree(t *testing.T) { // 7.3, 7.5
	for _, x := range [][3]int{
		{2, 5, 10}, {1, 1, 1}, {1, 2, 1}, {1, 2, 5000}, {1, 5, 1000}, {2, 3, 3000}, {3, 3, 1000}, {4, 3, 1000},
		{1, api.MaxWorkers, 300}, {2, api.MaxWorkers, 300}, {api.MaxWorkers - 1, api.MaxWorkers, 300}, {api.MaxWorkers, api.MaxWorkers, 300},
		{api.MaxCells, api.MaxWorkers, 100}, {api.MaxCells, 1, 1},
		{1, 0, 0}, {1, 0, 10}, {1, 0, api.MaxCells}, {1, 10, 0}, {api.MaxCells, api.MaxWorkers, 0},
		{1, 1, api.MaxCells}, {2, 2, api.MaxCells},
	} {
		n, never, why := sem.Free(x[0], x[1], x[2])
		if n != x[1]*x[2] || !never || why != api.OK {
			t.Errorf("Free%v: %d, %v, error %d", x, n, never, why)
		}
	}
}

func TestFreeRefuses(t *testing.T) { // 7.3
	for _, x := range [][3]int{
		{0, 5, 10}, {-1, 5, 10}, {math.MinInt, 5, 10}, {api.MaxCells + 1, 5, 10}, {math.MaxInt, 5, 10},
		{2, -1, 10}, {2, math.MinInt, 10}, {2, api.MaxWorkers + 1, 10}, {2, math.MaxInt, 10}, {2, api.MaxWorkers + 1, 0},
		{2, 5, -1}, {2, 5, math.MinInt}, {2, 5, api.MaxCells + 1}, {2, 5, math.MaxInt}, {2, 0, -1}, {2, 0, api.MaxCells + 1},
		{0, 0, 0}, {0, -1, -1},
	} {
		if n, never, why := sem.Free(x[0], x[1], x[2]); n != 0 || never || why != api.ErrRange {
			t.Errorf("Free%v: %d, %v, error %d", x, n, never, why)
		}
	}
}

// More of all together than a Free call of other things may do: places have no such bound.
func TestFreeOfMany(t *testing.T) { // 7.3
	const rounds = api.MaxSteps/api.MaxWorkers + 1
	if n, never, why := sem.Free(api.MaxWorkers/2, api.MaxWorkers, rounds); n != api.MaxWorkers*rounds || !never || why != api.OK {
		t.Error(n, never, why)
	}
}

func TestFreeLeavesNothing(t *testing.T) { // P4
	before := runtime.NumGoroutine()
	for range 20 {
		if n, never, why := sem.Free(3, api.MaxWorkers, 20); n != 20*api.MaxWorkers || !never || why != api.OK {
			t.Fatal(n, never, why)
		}
	}
	for tries := 0; runtime.NumGoroutine() > before; tries++ { // one that has ended is counted for a moment more
		if tries == 1000 {
			t.Fatal("goroutines are left:", runtime.NumGoroutine()-before)
		}
		time.Sleep(time.Millisecond)
	}
}
