package ring_test

import (
	"math"
	"math/rand"
	"runtime"
	"slices"
	"testing"
	"time"

	"abacus/api"
	"abacus/ring"
)

type plans = [][]api.RingOp

func TestFree(t *testing.T) { // 5.4, and example 4
	for _, x := range []struct {
		slots int
		width int64
		l     plans
		want  uint64
		why   api.Errno
	}{
		{3, 10, plans{{add(0, 1), add(29, 2)}, {add(12, 3)}}, 6, api.OK},
		{3, 10, plans{{add(0, 1), add(29, 2)}, {add(12, 3), add(30, 1)}}, 0, api.ErrMix},

		// Nothing is to be done.
		{3, 10, nil, 0, api.OK},
		{3, 10, plans{nil, {}}, 0, api.OK},
		{1, 1, plans{{add(lastTick, 0)}}, 0, api.OK},

		{0, 10, plans{{add(0, 1)}}, 0, api.ErrRange},
		{api.MaxSlots + 1, 10, nil, 0, api.ErrRange},
		{1, 0, nil, 0, api.ErrRange},
		{1, api.MaxWidth + 1, nil, 0, api.ErrRange},
		{api.MaxSlots, api.MaxWidth, plans{{add(math.MaxInt64, 4)}, {add(0, 3)}}, 7, api.OK},

		// All ticks lie in one window, wherever that is.
		{1, 10, plans{{add(70, 1), add(79, 2)}, {add(75, 4)}}, 7, api.OK},
		{1, 10, plans{{add(70, 1)}, {add(80, 4)}}, 0, api.ErrMix},
		{1, 10, plans{{add(70, 0)}, {add(80, 0)}}, 0, api.ErrMix},
		{3, 1, plans{{add(lastTick, 1)}, {add(lastTick-2, 4)}}, 5, api.OK},
		{3, 1, plans{{add(lastTick, 1)}, {add(lastTick-3, 4)}}, 0, api.ErrMix},
		{3, 1, plans{{add(lastTick, 1)}, {add(0, 4)}}, 0, api.ErrMix},
		{3, 10, plans{{add(59, 1)}, nil, {add(30, 4), add(41, 1)}}, 6, api.OK},
		{3, 10, plans{{add(59, 1)}, nil, {add(29, 4)}}, 0, api.ErrMix},
		{api.MaxSlots, 1, plans{{add(0, 1), add(api.MaxSlots-1, 2)}}, 3, api.OK},
		{api.MaxSlots, 1, plans{{add(0, 1), add(api.MaxSlots, 2)}}, 0, api.ErrMix},

		// All together come to MaxTally at most, even where they lie in several slots.
		{2, 1, plans{{add(0, most)}, {add(0, 0)}}, most, api.OK},
		{2, 1, plans{{add(0, most-1)}, {add(1, 1)}}, most, api.OK},
		{2, 1, plans{{add(0, most)}, {add(1, 1)}}, 0, api.ErrMix},
		{2, 1, plans{{add(0, most), add(0, 1)}}, 0, api.ErrMix},
		{2, 1, plans{slices.Repeat([]api.RingOp{add(0, most)}, 4096)}, 0, api.ErrMix},

		// Who only looks is no RingAdd.
		{3, 10, plans{{sum(0)}}, 0, api.ErrMix},
		{3, 10, plans{{add(0, 1)}, {sum(0)}}, 0, api.ErrMix},

		// Start's first error, list by list, comes ahead of a mix.
		{3, 10, plans{{add(0, 1)}, {{}}}, 0, api.ErrAct},
		{3, 10, plans{{{Kind: api.RingCount}}}, 0, api.ErrAct},
		{3, 10, plans{{sum(0), add(100, 1), add(-1, 1)}}, 0, api.ErrRange},
		{3, 10, plans{{sum(0), add(100, 1)}, {add(0, most+1)}}, 0, api.ErrRange},
		{3, 10, plans{{add(10*lastTick+10, 1)}}, 0, api.ErrRange},
		{3, 10, plans{{sum(0)}, {{Kind: api.RingSum, N: 1}}, {add(-1, 1)}}, 0, api.ErrAct},
		{3, 10, plans{{sum(0)}, {add(-1, 1), {Kind: api.RingSum, N: 1}}}, 0, api.ErrRange},
		{3, 10, plans{{add(0, 1), {}}, {add(-1, 1)}}, 0, api.ErrAct},
		{3, 10, plans{{add(0, 1), add(-1, 1)}, {{}}}, 0, api.ErrRange},
	} {
		if got, why := ring.Free(x.slots, x.width, x.l); got != x.want || why != x.why {
			t.Errorf("Free(%d, %d, %v): %d, error %d, want %d, %d", x.slots, x.width, x.l[:min(3, len(x.l))], got, why, x.want, x.why)
		}
	}
}

func TestFreeTooMany(t *testing.T) { // 5.4
	one, bad := []api.RingOp{add(0, 1)}, []api.RingOp{{}}
	all := slices.Repeat(one, api.MaxSteps)
	for _, x := range []struct {
		name  string
		slots int
		l     plans
		want  uint64
		why   api.Errno
	}{
		{"all workers", 1, slices.Repeat(plans{one}, api.MaxWorkers), api.MaxWorkers, api.OK},
		{"one worker more", 1, slices.Repeat(plans{one}, api.MaxWorkers+1), 0, api.ErrMany},
		{"one worker more, none of whom does anything", 1, make(plans, api.MaxWorkers+1), 0, api.ErrMany},
		{"too many workers ahead of what may not be", 1, slices.Repeat(plans{bad}, api.MaxWorkers+1), 0, api.ErrMany},
		{"New's error ahead of too many workers", 0, make(plans, api.MaxWorkers+1), 0, api.ErrRange},
		{"all operations", 1, plans{all[:1000], all[1000:]}, api.MaxSteps, api.OK},
		{"one operation more", 1, plans{one, all}, 0, api.ErrMany},
		{"one operation more, the last one", 1, plans{all, nil, one}, 0, api.ErrMany},
		{"too many operations ahead of what may not be", 1, plans{bad, all}, 0, api.ErrMany},
	} {
		if got, why := ring.Free(x.slots, 1, x.l); got != x.want || why != x.why {
			t.Errorf("%s: %d, error %d", x.name, got, why)
		}
	}
}

func TestFreeLosesNothing(t *testing.T) { // 5.4, 5.6
	r := rand.New(rand.NewSource(4))
	for range 300 {
		slots, width, first := 1+r.Intn(5), 1+r.Int63n(10), r.Int63n(1000)
		var want uint64
		l := make(plans, 1+r.Intn(8))
		for n := range l {
			for range r.Intn(100) {
				op := add(first*width+r.Int63n(int64(slots)*width), uint64(r.Intn(1000)))
				want += op.N
				l[n] = append(l[n], op)
			}
		}
		if got, why := ring.Free(slots, width, l); got != want || why != api.OK {
			t.Fatalf("Free(%d, %d, ..): %d, error %d, want %d", slots, width, got, why, want)
		}
	}
}

func TestFreeLeavesAllAsItWas(t *testing.T) { // 5.5, P4
	before := runtime.NumGoroutine()
	l := slices.Repeat(plans{{add(0, 1), add(15, 2), add(9, 3)}}, api.MaxWorkers)
	for range 20 {
		if got, why := ring.Free(2, 10, l); got != 6*api.MaxWorkers || why != api.OK {
			t.Fatal(got, why)
		}
	}
	for _, list := range l {
		if !slices.Equal(list, []api.RingOp{add(0, 1), add(15, 2), add(9, 3)}) {
			t.Fatal("what was handed in is changed:", list)
		}
	}
	for tries := 0; runtime.NumGoroutine() > before; tries++ { // one that has ended is counted for a moment more
		if tries == 1000 {
			t.Fatal("goroutines are left:", runtime.NumGoroutine()-before)
		}
		time.Sleep(time.Millisecond)
	}
}
