package crdt_test

import (
	"math"
	"math/rand"
	"reflect"
	"runtime"
	"slices"
	"strconv"
	"testing"
	"time"

	"abacus/api"
	"abacus/crdt"
)

func frees(t *testing.T, l [][]int64, want ...api.Node) {
	t.Helper()
	if got, why := crdt.Free(l); !slices.Equal(got, want) || why != api.OK {
		t.Errorf("Free of %d lists: %v, error %d, want %v", len(l), got, why, want)
	}
}

// counted is what lists come to by the document's words.
func counted(l [][]int64) []api.Node {
	all := book{}
	for i, numbers := range l {
		var own [2]uint64
		for _, x := range numbers {
			if x > 0 {
				own[0] += uint64(x)
			} else {
				own[1] += uint64(-x)
			}
		}
		all["n"+strconv.Itoa(i)] = own
	}
	return all.state()
}

func TestFree(t *testing.T) { // 23.5
	frees(t, nil)
	frees(t, [][]int64{})
	frees(t, [][]int64{nil})
	frees(t, [][]int64{{0}, {}, {0, 0}})
	frees(t, [][]int64{{7}}, state("n0 7 0")...)
	frees(t, [][]int64{{-7}}, state("n0 0 7")...)
	frees(t, [][]int64{nil, {1, -1, 2, 0, -5}, {0}, {4}}, state("n1 3 6, n3 4 0")...)
	frees(t, make([][]int64, api.MaxNodes))
	var twelve [][]int64
	for i := range 12 {
		twelve = append(twelve, []int64{int64(i + 1)})
	}
	frees(t, twelve, state("n0 1 0, n1 2 0, n10 11 0, n11 12 0, n2 3 0, n3 4 0, n4 5 0, n5 6 0, n6 7 0, n7 8 0, n8 9 0, n9 10 0")...)
}

func TestFreeOfTheMost(t *testing.T) { // 23.5: MaxNodes, MaxSteps, MaxUp
	most := slices.Repeat([][]int64{{api.MaxUp, -api.MaxUp}}, api.MaxNodes)
	frees(t, most, counted(most)...)
	all := make([]int64, api.MaxSteps)
	for i := range all {
		all[i] = int64(i%1000) - 499
	}
	frees(t, [][]int64{all}, counted([][]int64{all})...)
	parts := slices.Collect(slices.Chunk(all, api.MaxSteps/api.MaxNodes))
	frees(t, parts, counted(parts)...)
	frees(t, [][]int64{{api.MaxUp - 1, 1, -1, -api.MaxUp + 1, 0}}, api.Node{Name: "n0", Up: api.MaxUp, Down: api.MaxUp})
}

func TestFreeOfAny(t *testing.T) { // 23.5, P3, P4
	r := rand.New(rand.NewSource(5))
	for range 200 {
		l := make([][]int64, r.Intn(api.MaxNodes+1))
		for i := range l {
			for range r.Intn(r.Intn(40) + 1) {
				l[i] = append(l[i], (r.Int63()>>8-1<<54)>>r.Intn(56))
			}
		}
		frees(t, l, counted(l)...)
	}
}

func TestFreeRefuses(t *testing.T) { // 23.5
	whole := make([]int64, api.MaxSteps)
	full := []int64{api.MaxUp, 1}
	for _, x := range []struct {
		name string
		l    [][]int64
		why  api.Errno
	}{
		{"one list more", slices.Repeat([][]int64{{1}}, api.MaxNodes+1), api.ErrMany},
		{"one list more, none of which has any", make([][]int64, api.MaxNodes+1), api.ErrMany},
		{"one number more", [][]int64{append(slices.Clone(whole), 0)}, api.ErrMany},
		{"one number more in the last list", [][]int64{whole, nil, {1}}, api.ErrMany},
		{"far more numbers", slices.Repeat([][]int64{whole}, api.MaxNodes), api.ErrMany},
		{"lists ahead of amounts", slices.Repeat([][]int64{full}, api.MaxNodes+1), api.ErrMany},
		{"numbers ahead of amounts", [][]int64{full, whole}, api.ErrMany},
		{"up", [][]int64{full}, api.ErrFull},
		{"down", [][]int64{{-api.MaxUp, -1}}, api.ErrFull},
		{"up by one number", [][]int64{{api.MaxUp + 1}}, api.ErrFull},
		{"down by one number", [][]int64{{-api.MaxUp - 1}}, api.ErrFull},
		{"up, and as much down", [][]int64{{api.MaxUp, -api.MaxUp, 1, -1}}, api.ErrFull},
		{"down, and as much up", [][]int64{{-1, api.MaxUp, -api.MaxUp}}, api.ErrFull},
		{"the greatest number", [][]int64{{math.MaxInt64}}, api.ErrFull},
		{"the least number", [][]int64{{math.MinInt64}}, api.ErrFull},
		{"the least number twice", [][]int64{{math.MinInt64, math.MinInt64}}, api.ErrFull},
		{"the greatest number twice", [][]int64{{math.MaxInt64, math.MaxInt64, 2}}, api.ErrFull},
		{"one below the least, then more", [][]int64{{-5, math.MinInt64 + 1}}, api.ErrFull},
		{"the last list", [][]int64{{1}, {api.MaxUp}, {2, api.MaxUp, -1}}, api.ErrFull},
		{"the last list of the most", append(make([][]int64, api.MaxNodes-1), full), api.ErrFull},
		{"more than wraps round", [][]int64{slices.Repeat([]int64{api.MaxUp}, 257)}, api.ErrFull},
	} {
		if got, why := crdt.Free(x.l); len(got) > 0 || why != x.why {
			t.Errorf("%s: %v, error %d, want %d", x.name, got, why, x.why)
		}
	}
}

func TestFreeLeavesAllAsItWas(t *testing.T) { // 23.6, P4
	before := runtime.NumGoroutine()
	l := [][]int64{{1, -2}, nil, {5, 0, 7}}
	kept := [][]int64{{1, -2}, nil, {5, 0, 7}}
	for range 20 {
		frees(t, l, state("n0 1 2, n2 12 0")...)
		frees(t, make([][]int64, api.MaxNodes))
		crdt.Free([][]int64{{1}, {math.MinInt64}})
		crdt.Free(make([][]int64, api.MaxNodes+1))
	}
	one, _ := crdt.Free(l)
	other, _ := crdt.Free(l)
	if !areApart(one, other) {
		t.Error("names share memory")
	}
	spoil(one)
	if !slices.Equal(other, state("n0 1 2, n2 12 0")) || !reflect.DeepEqual(l, kept) {
		t.Error("an answer is a piece of another one, or what was handed in is changed:", other, l)
	}
	for tries := 0; runtime.NumGoroutine() > before; tries++ { // one that has ended is counted for a moment more
		if tries == 1000 {
			t.Fatal("goroutines are left:", runtime.NumGoroutine()-before)
		}
		time.Sleep(time.Millisecond)
	}
}
