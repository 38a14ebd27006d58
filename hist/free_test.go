package hist_test

import (
	"math"
	"math/rand"
	"runtime"
	"slices"
	"testing"
	"time"

	"abacus/api"
	"abacus/hist"
)

func TestFree(t *testing.T) { // 10.5, 10.7
	r := rand.New(rand.NewSource(11))
	for _, l := range [][][]int64{nil, {}, {nil}, {nil, {}}, {{0}, {1000}}, {{5, 5}, nil, {5}}} {
		frees(t, example, l)
	}
	for range 200 {
		s := []api.Scale{example, {Lowest: 1, Highest: 2, Digits: 1}, {Lowest: 5, Highest: 100000, Digits: 2}}[r.Intn(3)]
		l := make([][]int64, r.Intn(api.MaxWorkers+1))
		for n := range l {
			for range r.Intn(40) {
				l[n] = append(l[n], r.Int63n(s.Highest+1))
			}
		}
		frees(t, s, l)
	}
}

func frees(t *testing.T, s api.Scale, l [][]int64) {
	t.Helper()
	var all []record
	for _, v := range slices.Concat(l...) {
		all = append(all, record{v, 1})
	}
	got, why := hist.Free(s, l)
	if !alike(got, shot(s, all...)) || why != api.OK {
		t.Fatalf("Free(%v, %v): %v, error %d", s, l, got, why)
	}
	if why := hist.Check(s, got); why != api.OK {
		t.Fatalf("Check of Free(%v, %v): error %d", s, l, why)
	}
}

func TestFreeRefuses(t *testing.T) { // 10.5
	one, bad := []int64{1}, []int64{-1}
	whole := slices.Repeat(one, api.MaxSteps)
	for _, x := range []struct {
		name  string
		s     api.Scale
		l     [][]int64
		count uint64
		why   api.Errno
	}{
		{"no scale", api.Scale{}, nil, 0, api.ErrScale},
		{"no scale, ahead of too many", wrong[1], slices.Repeat([][]int64{bad}, api.MaxWorkers+1), 0, api.ErrScale},
		{"no scale, ahead of a number", wrong[1], [][]int64{bad}, 0, api.ErrScale},
		{"all workers", example, slices.Repeat([][]int64{one}, api.MaxWorkers), api.MaxWorkers, api.OK},
		{"one worker more", example, slices.Repeat([][]int64{one}, api.MaxWorkers+1), 0, api.ErrMany},
		{"one worker more, of whom none records", example, make([][]int64, api.MaxWorkers+1), 0, api.ErrMany},
		{"too many workers ahead of a number", example, slices.Repeat([][]int64{bad}, api.MaxWorkers+1), 0, api.ErrMany},
		{"all numbers", example, [][]int64{whole[:1000], whole[1000:]}, api.MaxSteps, api.OK},
		{"one number more", example, [][]int64{one, whole}, 0, api.ErrMany},
		{"one number more, the last one", example, [][]int64{whole, nil, one}, 0, api.ErrMany},
		{"too many numbers ahead of a wrong one", example, [][]int64{bad, whole}, 0, api.ErrMany},
		{"below 0", example, [][]int64{one, {1, 2, -1}}, 0, api.ErrRange},
		{"far below 0", example, [][]int64{{math.MinInt64}}, 0, api.ErrRange},
		{"above Highest", example, [][]int64{{1001, 1}, one}, 0, api.ErrRange},
		{"far above Highest", example, [][]int64{one, nil, {math.MaxInt64}}, 0, api.ErrRange},
	} {
		got, why := hist.Free(x.s, x.l)
		if why != x.why || got.Count != x.count || why != api.OK && !isZero(got) {
			t.Errorf("%s: %v, error %d", x.name, got, why)
		}
	}
}

func TestFreeLeavesAllAsItWas(t *testing.T) { // 10.6, P4
	before := runtime.NumGoroutine()
	l := slices.Repeat([][]int64{{5, 1000, 0}}, api.MaxWorkers)
	for range 20 {
		if got, why := hist.Free(example, l); got.Count != 3*api.MaxWorkers || why != api.OK {
			t.Fatal(got, why)
		}
	}
	if !slices.Equal(l[0], []int64{5, 1000, 0}) {
		t.Fatal("what was handed in is changed:", l[0])
	}
	for tries := 0; runtime.NumGoroutine() > before; tries++ { // one that has ended is counted for a moment more
		if tries == 1000 {
			t.Fatal("goroutines are left:", runtime.NumGoroutine()-before)
		}
		time.Sleep(time.Millisecond)
	}
}
