package snap_test

import (
	"math"
	"math/rand"
	"runtime"
	"slices"
	"testing"
	"time"

	"abacus/api"
	"abacus/snap"
)

// frees holds a Free that is right against what its lists come to.
func frees(t *testing.T, l [][]uint32, scans int) {
	t.Helper()
	var want []api.Reg
	for _, values := range l {
		r := api.Reg{Number: uint32(len(values))}
		if len(values) > 0 {
			r.Value = values[len(values)-1]
		}
		want = append(want, r)
	}
	if rising, got, why := snap.Free(l, scans); !rising || !slices.Equal(got, want) || why != api.OK {
		t.Fatalf("Free of %d lists, %d scans: %v, %v, error %d, want %v", len(l), scans, rising, got, why, want)
	}
}

func TestFree(t *testing.T) { // 14.4, 14.10
	frees(t, [][]uint32{nil}, 0)
	frees(t, [][]uint32{{}, nil}, 10)
	frees(t, [][]uint32{{5}}, 0)
	frees(t, [][]uint32{{0, 0, 0}, {math.MaxUint32}}, 1)
	frees(t, [][]uint32{{1, 2, 3}, nil, {7, 7, 7, 0}}, 1000)
	frees(t, make([][]uint32, api.MaxWorkers), 100)
	r := rand.New(rand.NewSource(16))
	for range 100 {
		l := make([][]uint32, 1+r.Intn(api.MaxWorkers))
		for i := range l {
			for range r.Intn(300) {
				l[i] = append(l[i], r.Uint32()>>r.Intn(32))
			}
		}
		frees(t, l, r.Intn(500))
	}
}

func TestFreeRefuses(t *testing.T) { // 14.4
	one := []uint32{1}
	whole := slices.Repeat(one, api.MaxSteps)
	for _, x := range []struct {
		name  string
		l     [][]uint32
		scans int
		why   api.Errno
	}{
		{"no lists", nil, 1, api.ErrRange},
		{"empty", [][]uint32{}, 1, api.ErrRange},
		{"one list more", slices.Repeat([][]uint32{one}, api.MaxWorkers+1), 1, api.ErrRange},
		{"one list more, none of which has any", make([][]uint32, api.MaxWorkers+1), 1, api.ErrRange},
		{"too many lists ahead of too many numbers", append(make([][]uint32, api.MaxWorkers), whole, one), 1, api.ErrRange},
		{"scans below 0", [][]uint32{one}, -1, api.ErrRange},
		{"scans far below 0", [][]uint32{one}, math.MinInt, api.ErrRange},
		{"one scan more", [][]uint32{one}, api.MaxSteps + 1, api.ErrRange},
		{"far more scans", [][]uint32{one}, math.MaxInt, api.ErrRange},
		{"too many scans ahead of too many numbers", [][]uint32{whole, one}, api.MaxSteps + 1, api.ErrRange},
		{"one number more", [][]uint32{one, whole}, 1, api.ErrMany},
		{"one number more, the last one", [][]uint32{whole, nil, one}, 0, api.ErrMany},
	} {
		if rising, got, why := snap.Free(x.l, x.scans); rising || got != nil || why != x.why {
			t.Errorf("%s: %v, %v, error %d", x.name, rising, got, why)
		}
	}
	frees(t, slices.Repeat([][]uint32{one}, api.MaxWorkers), 1)
	frees(t, [][]uint32{whole[:1000], whole[1000:]}, 1)
	frees(t, [][]uint32{one}, api.MaxSteps)
}

func TestFreeLeavesAllAsItWas(t *testing.T) { // 14.5, P4
	before := runtime.NumGoroutine()
	l := slices.Repeat([][]uint32{{5, 0, 9}}, api.MaxWorkers)
	for range 20 {
		frees(t, l, 50)
	}
	if !slices.Equal(l[0], []uint32{5, 0, 9}) {
		t.Error("what was handed in is changed:", l[0])
	}
	for tries := 0; runtime.NumGoroutine() > before; tries++ { // one that has ended is counted for a moment more
		if tries == 1000 {
			t.Fatal("goroutines are left:", runtime.NumGoroutine()-before)
		}
		time.Sleep(time.Millisecond)
	}
}
