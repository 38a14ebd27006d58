package tokens_test

import (
	"math"
	"math/rand"
	"runtime"
	"testing"
	"time"

	"abacus/api"
	"abacus/tokens"
)

const mostEach = api.MaxSteps / api.MaxWorkers

func TestFree(t *testing.T) { // 6.5, 6.10
	for _, x := range []struct {
		every, burst  int64
		workers, each int
		at            int64
	}{
		{10, 3, 4, 2, 7},
		{10, 3, 3, 1, 7}, {10, 3, 1, 3, 7}, {10, 3, 1, 2, 7}, {10, 3, 2, 1, 0}, {10, 3, 1, 4, 7},
		{10, 3, 4, 0, 7}, {1, 1, 1, 0, 0},
		{1, 1, api.MaxWorkers, 100, 0}, {1, 1, 1, 1, api.MaxAt},
		{api.MaxEvery, api.MaxBurst, api.MaxWorkers, 100, api.MaxAt},
		{api.MaxEvery, 100, api.MaxWorkers, 100, api.MaxAt},
		{10, api.MaxBurst, api.MaxWorkers, mostEach, 5}, // as many as there are
		{10, api.MaxBurst - 1, api.MaxWorkers, mostEach, 5},
		{10, api.MaxBurst, 1, mostEach, 5},
	} {
		want := min(x.burst, int64(x.workers)*int64(x.each))
		if got, why := tokens.Free(x.every, x.burst, x.workers, x.each, x.at); got != want || why != api.OK {
			t.Errorf("Free of %v: %d, error %d, want %d", x, got, why, want)
		}
	}
}

func TestFreeRefuses(t *testing.T) { // 6.5
	for _, x := range []struct {
		every, burst  int64
		workers, each int
		at            int64
	}{
		{0, 3, 4, 2, 7}, {-1, 3, 4, 2, 7}, {api.MaxEvery + 1, 3, 4, 2, 7}, {math.MaxInt64, 3, 4, 2, 7},
		{10, 0, 4, 2, 7}, {10, -1, 4, 2, 7}, {10, api.MaxBurst + 1, 4, 2, 7}, {10, math.MinInt64, 4, 2, 7},
		{10, 3, 0, 2, 7}, {10, 3, -1, 2, 7}, {10, 3, api.MaxWorkers + 1, 2, 7}, {10, 3, math.MaxInt, 2, 7},
		{10, 3, 4, -1, 7}, {10, 3, 1, mostEach + 1, 7}, {10, 3, 4, math.MaxInt, 7}, {10, 3, 4, math.MinInt, 7},
		{10, 3, 4, 2, -1}, {10, 3, 4, 2, api.MaxAt + 1}, {10, 3, 4, 2, math.MaxInt64}, {10, 3, 4, 0, -1},
	} {
		if got, why := tokens.Free(x.every, x.burst, x.workers, x.each, x.at); got != 0 || why != api.ErrRange {
			t.Errorf("Free of %v: %d, error %d", x, got, why)
		}
	}
}

func TestFreeGivesJustTheBurst(t *testing.T) { // 6.10
	r := rand.New(rand.NewSource(3))
	for range 300 {
		every, burst := 1+r.Int63n(100), 1+r.Int63n(500)
		workers, each, at := 1+r.Intn(16), r.Intn(60), r.Int63n(1000)
		want := min(burst, int64(workers*each))
		if got, why := tokens.Free(every, burst, workers, each, at); got != want || why != api.OK {
			t.Fatalf("Free(%d, %d, %d, %d, %d): %d, error %d, want %d", every, burst, workers, each, at, got, why, want)
		}
	}
}

func TestFreeLeavesNothing(t *testing.T) { // 6.6
	before := runtime.NumGoroutine()
	for range 20 {
		if got, why := tokens.Free(10, 100, api.MaxWorkers, 3, 7); got != 100 || why != api.OK {
			t.Fatal(got, why)
		}
	}
	for tries := 0; runtime.NumGoroutine() > before; tries++ { // one that has ended is counted for a moment more
		if tries == 1000 {
			t.Fatal("goroutines are left:", runtime.NumGoroutine()-before)
		}
		time.Sleep(time.Millisecond)
	}
}
