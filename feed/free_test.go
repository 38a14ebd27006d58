package feed_test

import (
	"math"
	"math/rand"
	"runtime"
	"slices"
	"testing"
	"time"

	"abacus/api"
	"abacus/feed"
)

// frees holds a Free that is right against its lists.
func frees(t *testing.T, size int, l [][]uint64, readers int) {
	t.Helper()
	want := slices.Concat(l...)
	slices.Sort(want)
	if got, is, why := feed.Free(size, l, readers); !slices.Equal(got, want) || !is || why != api.OK {
		t.Fatalf("Free(%d, %d lists, %d): %v, %v, error %d, want %v", size, len(l), readers, got, is, why, want)
	}
}

func TestFree(t *testing.T) { // 21.3, example 3
	frees(t, 2, [][]uint64{{1, 2, 3}, {4, 5}}, 3)
	frees(t, 2, nil, 1)
	frees(t, 2, [][]uint64{}, api.MaxWorkers)
	frees(t, 2, [][]uint64{nil, {}}, 2)
	frees(t, api.MaxFeed, make([][]uint64, api.MaxWorkers), api.MaxWorkers)
	frees(t, 2, [][]uint64{{0}}, 1)
	frees(t, 3, [][]uint64{{math.MaxUint64, 0}, nil, {7, 7, 7}, {7}}, api.MaxWorkers)
	all := make([]uint64, api.MaxFeed)
	var each [][]uint64
	for i := range all {
		all[i] = uint64(i * 7919 % api.MaxFeed)
	}
	for part := range slices.Chunk(all, api.MaxFeed/api.MaxWorkers) {
		each = append(each, part)
	}
	for _, size := range []int{2, 3, 64, api.MaxFeed - 1, api.MaxFeed} {
		for _, readers := range []int{1, 2, api.MaxWorkers} {
			frees(t, size, [][]uint64{all}, readers)
			frees(t, size, each, readers)
			frees(t, size, [][]uint64{all[:1000], nil, all[1000:]}, readers)
		}
	}
}

func TestFreeOfAny(t *testing.T) { // 21.3, 21.5
	r := rand.New(rand.NewSource(3))
	for range 400 {
		l := make([][]uint64, r.Intn(api.MaxWorkers+1))
		for i := range l {
			for range r.Intn(r.Intn(40) + 1) {
				l[i] = append(l[i], r.Uint64()>>r.Intn(64))
			}
		}
		frees(t, 2+r.Intn(1<<r.Intn(7)), l, 1+r.Intn(api.MaxWorkers))
	}
}

func TestFreeRefuses(t *testing.T) { // 21.3
	one := []uint64{1}
	whole := make([]uint64, api.MaxFeed)
	for _, x := range []struct {
		name    string
		size    int
		l       [][]uint64
		readers int
		why     api.Errno
	}{
		{"size 1", 1, [][]uint64{one}, 1, api.ErrRange},
		{"size 0", 0, nil, 1, api.ErrRange},
		{"size below 0", math.MinInt, [][]uint64{one}, 1, api.ErrRange},
		{"size beyond", api.MaxFeed + 1, [][]uint64{one}, 1, api.ErrRange},
		{"size far beyond", math.MaxInt, [][]uint64{one}, 1, api.ErrRange},
		{"size ahead of lists", 1, make([][]uint64, api.MaxWorkers+1), 1, api.ErrRange},
		{"size ahead of values", api.MaxFeed + 1, [][]uint64{whole, one}, 1, api.ErrRange},
		{"one list more", 2, slices.Repeat([][]uint64{one}, api.MaxWorkers+1), 1, api.ErrMany},
		{"one list more, none of which has any", 2, make([][]uint64, api.MaxWorkers+1), 1, api.ErrMany},
		{"one value more", 2, [][]uint64{append(slices.Clone(whole), 1)}, 1, api.ErrMany},
		{"one value more in the last list", api.MaxFeed, [][]uint64{whole, nil, one}, 1, api.ErrMany},
		{"lists ahead of readers", 2, make([][]uint64, api.MaxWorkers+1), 0, api.ErrMany},
		{"values ahead of readers", 2, [][]uint64{one, whole}, api.MaxWorkers + 1, api.ErrMany},
		{"no readers", 2, [][]uint64{one}, 0, api.ErrRange},
		{"no readers of nothing", 2, nil, 0, api.ErrRange},
		{"readers below 0", 2, [][]uint64{one}, math.MinInt, api.ErrRange},
		{"one reader more", 2, [][]uint64{one}, api.MaxWorkers + 1, api.ErrRange},
		{"far more readers", 2, [][]uint64{one}, math.MaxInt, api.ErrRange},
	} {
		if got, is, why := feed.Free(x.size, x.l, x.readers); len(got) > 0 || is || why != x.why {
			t.Errorf("%s: %v, %v, error %d", x.name, got, is, why)
		}
	}
}

func TestFreeLeavesAllAsItWas(t *testing.T) { // 21.4, P4
	before := runtime.NumGoroutine()
	list := []uint64{9, 0, 5}
	l := slices.Repeat([][]uint64{list}, api.MaxWorkers)
	for range 20 {
		frees(t, 2, l, api.MaxWorkers)
	}
	got, _, _ := feed.Free(4, [][]uint64{list}, 2)
	clear(got[:cap(got)])
	if !slices.Equal(list, []uint64{9, 0, 5}) {
		t.Error("what was handed in is changed:", list)
	}
	for tries := 0; runtime.NumGoroutine() > before; tries++ { // one that has ended is counted for a moment more
		if tries == 1000 {
			t.Fatal("goroutines are left:", runtime.NumGoroutine()-before)
		}
		time.Sleep(time.Millisecond)
	}
}
