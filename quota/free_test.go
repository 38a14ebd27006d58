package quota_test

import (
	"math"
	"math/rand"
	"runtime"
	"testing"
	"time"

	"abacus/api"
	"abacus/quota"
)

const mostEach = api.MaxSteps / api.MaxWorkers

// free holds a Free against what is wanted.
func free(t *testing.T, limit, batch int64, workers, each int) {
	t.Helper()
	want := min(limit, int64(workers)*int64(each))
	if taken, left, why := quota.Free(limit, batch, workers, each); taken != want || left != limit-want || why != api.OK {
		t.Errorf("Free(%d, %d, %d, %d): %d, %d, error %d, want %d, %d", limit, batch, workers, each, taken, left, why, want, limit-want)
	}
}

func TestFree(t *testing.T) { // 18.4, 18.9
	for _, x := range []struct {
		limit, batch  int64
		workers, each int
	}{
		{5, 2, 2, 2}, {5, 2, 3, 10}, {5, 2, 1, 5}, {5, 2, 1, 6}, {5, 2, 5, 1},
		{0, 1, 1, 1}, {0, api.MaxBatch, api.MaxWorkers, 10}, {7, 3, 4, 0}, {0, 1, 1, 0},
		{1, 1, api.MaxWorkers, 1}, {1, api.MaxBatch, api.MaxWorkers, 5},
		{api.MaxLimit, api.MaxBatch, api.MaxWorkers, 20}, {api.MaxLimit, 1, 3, 20},
		{100, api.MaxBatch, api.MaxWorkers, 20}, // who comes first borrows all
		{api.MaxSteps, 64, api.MaxWorkers, mostEach}, {api.MaxSteps - 1, 64, api.MaxWorkers, mostEach}, {api.MaxSteps + 1, 7, api.MaxWorkers, mostEach},
		{1000, 3, 2, mostEach},
	} {
		free(t, x.limit, x.batch, x.workers, x.each)
	}
}

func TestFreeRefuses(t *testing.T) { // 18.4
	for _, x := range []struct {
		limit, batch  int64
		workers, each int
	}{
		{-1, 2, 2, 2}, {math.MinInt64, 2, 2, 2}, {api.MaxLimit + 1, 2, 2, 2}, {math.MaxInt64, 2, 2, 2},
		{5, 0, 2, 2}, {5, -1, 2, 2}, {5, api.MaxBatch + 1, 2, 2}, {5, math.MaxInt64, 2, 2},
		{5, 2, 0, 2}, {5, 2, -1, 2}, {5, 2, api.MaxWorkers + 1, 2}, {5, 2, math.MaxInt, 2}, {5, 2, math.MinInt, 2},
		{5, 2, 2, -1}, {5, 2, 1, mostEach + 1}, {5, 2, 2, math.MaxInt}, {5, 2, 2, math.MinInt},
		{-1, 0, 0, -1},
	} {
		if taken, left, why := quota.Free(x.limit, x.batch, x.workers, x.each); taken != 0 || left != 0 || why != api.ErrRange {
			t.Errorf("Free of %v: %d, %d, error %d", x, taken, left, why)
		}
	}
}

func TestFreeTakesAllThatItMay(t *testing.T) { // 18.9
	r := rand.New(rand.NewSource(9))
	for range 400 {
		free(t, r.Int63n(600), 1+r.Int63n(40), 1+r.Intn(16), r.Intn(60))
	}
}

func TestFreeLeavesNothing(t *testing.T) { // 18.5
	before := runtime.NumGoroutine()
	for range 20 {
		free(t, 100, 3, api.MaxWorkers, 3)
	}
	for tries := 0; runtime.NumGoroutine() > before; tries++ { // one that has ended is counted for a moment more
		if tries == 1000 {
			t.Fatal("goroutines are left:", runtime.NumGoroutine()-before)
		}
		time.Sleep(time.Millisecond)
	}
}
