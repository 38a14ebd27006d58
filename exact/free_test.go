package exact_test

import (
	"math"
	"math/rand"
	"runtime"
	"slices"
	"testing"
	"time"

	"abacus/api"
	"abacus/exact"
)

func TestFree(t *testing.T) { // 9.5
	r := rand.New(rand.NewSource(11))
	for _, l := range [][][]float64{nil, {}, {nil}, {{}, nil, {}}, {{1e100}, {1}, {-1e100}}, {{minus}, nil, {minus, minus}}, {{inf}, {nan}, {-inf}}} {
		if got, why := exact.Free(l); got != of(slices.Concat(l...)...).Text() || why != api.OK {
			t.Errorf("Free(%v): %q, error %d", l, got, why)
		}
	}
	for range 300 {
		l := make([][]float64, r.Intn(api.MaxWorkers+1))
		for n := range l {
			l[n] = someFloats(r, r.Intn(30))
		}
		if got, why := exact.Free(l); got != of(slices.Concat(l...)...).Text() || why != api.OK {
			t.Fatalf("Free(%v): %q, error %d", l, got, why)
		}
	}
}

func TestFreeTooMany(t *testing.T) { // 9.5
	one := []float64{1}
	most := slices.Repeat(one, api.MaxSteps)
	for _, x := range []struct {
		name string
		l    [][]float64
		want string
		why  api.Errno
	}{
		{"all workers", slices.Repeat([][]float64{one}, api.MaxWorkers), of(slices.Repeat(one, api.MaxWorkers)...).Text(), api.OK},
		{"one worker more", slices.Repeat([][]float64{one}, api.MaxWorkers+1), "", api.ErrMany},
		{"one worker more, of whom none has anything", make([][]float64, api.MaxWorkers+1), "", api.ErrMany},
		{"all floats", [][]float64{most[:1000], most[1000:]}, of(most...).Text(), api.OK},
		{"all floats, in one list", [][]float64{nil, most}, of(most...).Text(), api.OK},
		{"one float more", [][]float64{one, most}, "", api.ErrMany},
		{"one float more, the last one", [][]float64{most, nil, one}, "", api.ErrMany},
	} {
		if got, why := exact.Free(x.l); got != x.want || why != x.why {
			t.Errorf("%s: %q, error %d", x.name, got, why)
		}
	}
}

func TestFreeLeavesAllAsItWas(t *testing.T) { // 9.6, P4
	before := runtime.NumGoroutine()
	list := []float64{0.1, odd, -1e300, minus}
	l := slices.Repeat([][]float64{list}, api.MaxWorkers)
	for range 20 {
		if _, why := exact.Free(l); why != api.OK {
			t.Fatal("error", why)
		}
	}
	for i, x := range []float64{0.1, odd, -1e300, minus} {
		if math.Float64bits(list[i]) != math.Float64bits(x) {
			t.Fatal("what was handed in is changed:", list)
		}
	}
	for tries := 0; runtime.NumGoroutine() > before; tries++ { // one that has ended is counted for a moment more
		if tries == 1000 {
			t.Fatal("goroutines are left:", runtime.NumGoroutine()-before)
		}
		time.Sleep(time.Millisecond)
	}
}
