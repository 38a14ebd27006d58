package gauges_test

import (
	"math"
	"math/rand"
	"runtime"
	"slices"
	"testing"
	"time"

	"abacus/api"
	"abacus/gauges"
)

type lists = [][]api.GaugeOp

func TestFree(t *testing.T) { // 3.3, and example 4
	const top = 1 << 53
	add := func(xs ...float64) []api.GaugeOp { return all(api.GaugeAdd, xs...) }
	for _, x := range []struct {
		start float64
		l     lists
		want  float64
		why   api.Errno
	}{
		{0, lists{add(1, 2), add(3)}, 6, api.OK},
		{0, lists{add(0.5)}, 0, api.ErrMix},
		{0, lists{all(api.GaugeMax, 1), all(api.GaugeMin, 2)}, 0, api.ErrMix},
		{0, lists{append(all(api.GaugeMax, 1), add(2)...)}, 0, api.ErrMix},

		// Nothing is to be done: it has what it is set to, whatever that is.
		{5, nil, 5, api.OK},
		{0.5, lists{nil, {}}, 0.5, api.OK},
		{-inf, lists{}, -inf, api.OK},
		{odd()[4], nil, nan, api.OK},

		{-7, lists{add(-1, -2), nil, add(3, minus)}, -7, api.OK},
		{minus, lists{add(minus), add(minus, minus)}, minus, api.OK},
		{minus, lists{add(minus), add(minus, 0)}, 0, api.OK},
		{0.5, lists{add(1)}, 0, api.ErrMix},
		{inf, lists{add(1)}, 0, api.ErrMix},
		{nan, lists{add(1)}, 0, api.ErrMix},
		{0, lists{add(1), add(2, -inf)}, 0, api.ErrMix},
		{0, lists{add(1), add(nan)}, 0, api.ErrMix},
		{0, lists{add(1), add(1 - 0x1p-53)}, 0, api.ErrMix},
		{0, lists{add(math.SmallestNonzeroFloat64)}, 0, api.ErrMix},

		// Amounts, the start's too, come to 2^53 at most.
		{0, lists{add(top)}, top, api.OK},
		{-top, lists{add(0)}, -top, api.OK},
		{top - 1, lists{add(-1)}, top - 2, api.OK},
		{top, lists{add(1)}, 0, api.ErrMix},
		{top, lists{add(-1)}, 0, api.ErrMix},
		{0, lists{add(top), add(-1)}, 0, api.ErrMix},
		{-1, lists{add(top)}, 0, api.ErrMix},
		{0, lists{add(top + 2)}, 0, api.ErrMix},
		{0, lists{add(1e300, -1e300)}, 0, api.ErrMix},
		{0, lists{slices.Repeat(add(top), 4096)}, 0, api.ErrMix}, // which comes to 2^65

		{0.5, lists{all(api.GaugeMax, 0.25, 0.75), all(api.GaugeMax, -inf, nan)}, 0.75, api.OK},
		{nan, lists{all(api.GaugeMax, nan), all(api.GaugeMax, odd()[5])}, nan, api.OK},
		{nan, lists{all(api.GaugeMax, -inf)}, -inf, api.OK},
		{minus, lists{all(api.GaugeMax, minus), all(api.GaugeMax, 0)}, 0, api.OK},
		{nan, lists{all(api.GaugeMin, 3, nan), all(api.GaugeMin, inf)}, 3, api.OK},
		{0, lists{all(api.GaugeMin, minus), all(api.GaugeMin, 0)}, minus, api.OK},

		// Of other kinds none may be, not even alone.
		{0, lists{{{Kind: api.GaugeGet}}}, 0, api.ErrMix},
		{0, lists{{{Kind: api.GaugeSet, X: 1}}}, 0, api.ErrMix},
		{0, lists{{{}}}, 0, api.ErrMix},
		{0, lists{{{Kind: 255}}}, 0, api.ErrMix},
		{0, lists{add(1), {{Kind: api.GaugeGet}}}, 0, api.ErrMix},
	} {
		got, why := gauges.Free(x.start, x.l)
		if why != x.why || math.Float64bits(got) != gauges.Bits(x.want) {
			t.Errorf("Free(%v, %v): %v, error %d", x.start, x.l, got, why)
		}
	}
}

func TestFreeTooMany(t *testing.T) { // 3.3
	one, bad := all(api.GaugeAdd, 1), []api.GaugeOp{{}}
	most := slices.Repeat(one, api.MaxSteps)
	for _, x := range []struct {
		name string
		l    lists
		want float64
		why  api.Errno
	}{
		{"all workers", slices.Repeat(lists{one}, api.MaxWorkers), api.MaxWorkers, api.OK},
		{"one worker more", slices.Repeat(lists{one}, api.MaxWorkers+1), 0, api.ErrMany},
		{"one worker more, of whom none does anything", slices.Repeat(lists{nil}, api.MaxWorkers+1), 0, api.ErrMany},
		{"too many workers ahead of a mix", slices.Repeat(lists{bad}, api.MaxWorkers+1), 0, api.ErrMany},
		{"all operations", lists{most[:1000], most[1000:]}, api.MaxSteps, api.OK},
		{"one operation more", lists{one, most}, 0, api.ErrMany},
		{"one operation more, the last one", lists{most, nil, one}, 0, api.ErrMany},
		{"too many operations ahead of a mix", lists{bad, most}, 0, api.ErrMany},
	} {
		if got, why := gauges.Free(0, x.l); got != x.want || why != x.why {
			t.Errorf("%s: %v, error %d", x.name, got, why)
		}
	}
}

func TestFreeComesToOneEnd(t *testing.T) { // 3.3, 3.5, 3.6
	r := rand.New(rand.NewSource(2))
	few := append(ladder(), odd()...)
	for range 200 {
		kind := []api.GaugeKind{api.GaugeAdd, api.GaugeMax, api.GaugeMin}[r.Intn(3)]
		pick := func() float64 {
			if kind == api.GaugeAdd {
				return float64(r.Intn(2000) - 1000)
			}
			return few[r.Intn(len(few))]
		}
		start := pick()
		g := has(start)
		l := make(lists, 1+r.Intn(8))
		for n := range l {
			for range r.Intn(50) {
				op := api.GaugeOp{Kind: kind, X: pick()}
				l[n] = append(l[n], op)
				switch kind {
				case api.GaugeAdd:
					g.Add(op.X)
				case api.GaugeMax:
					g.Max(op.X)
				case api.GaugeMin:
					g.Min(op.X)
				}
			}
		}
		if got, why := gauges.Free(start, l); why != api.OK || !same(got, g.Get()) {
			t.Fatalf("Free(%v, %v): %v, error %d, want %v", start, l, got, why, g.Get())
		}
	}
}

func TestFreeLeavesAllAsItWas(t *testing.T) { // 3.4, P4
	before := runtime.NumGoroutine()
	l := slices.Repeat(lists{all(api.GaugeAdd, 1, 2, 3)}, api.MaxWorkers)
	for range 20 {
		if got, why := gauges.Free(1, l); got != 1+6*api.MaxWorkers || why != api.OK {
			t.Fatal(got, why)
		}
	}
	for _, list := range l {
		if !slices.Equal(list, all(api.GaugeAdd, 1, 2, 3)) {
			t.Fatal("what was handed in is changed:", list)
		}
	}
	for tries := 0; runtime.NumGoroutine() > before; tries++ { // one that has ended is counted for a moment more
		if tries == 1000 {
			t.Fatal("goroutines are left:", runtime.NumGoroutine()-before)
		}
		time.Sleep(time.Millisecond)
	}
}
