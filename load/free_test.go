package load_test

import (
	"math/rand"
	"runtime"
	"testing"
	"time"

	"abacus/api"
	"abacus/load"
)

func TestFree(t *testing.T) { // 28.5
	r := rand.New(rand.NewSource(9))
	for i := range 800 {
		l := api.Load{Kind: api.LoadKind(1 + i%4), Seed: r.Uint64(), Workers: 1 + r.Intn(api.MaxWorkers), Each: r.Intn(api.MaxEach + 1), Size: 1 + r.Intn(api.MaxSize)}
		if i < 40 {
			l.Workers, l.Each = api.MaxWorkers, api.MaxEach
		}
		if is, why := load.Free(l); !is || why != api.OK {
			t.Errorf("Free(%v): %v, error %d", l, is, why)
		}
	}
}

func TestFreeLeavesNoGoroutine(t *testing.T) { // 28.6
	before := runtime.NumGoroutine()
	for i := range 40 {
		load.Free(api.Load{Kind: api.LoadKind(1 + i%4), Seed: 1, Workers: api.MaxWorkers, Each: 10, Size: 5})
	}
	for tries := 0; runtime.NumGoroutine() > before; tries++ { // one that has ended is counted for a moment more
		if tries == 1000 {
			t.Fatal("goroutines are left:", runtime.NumGoroutine()-before)
		}
		time.Sleep(time.Millisecond)
	}
}
