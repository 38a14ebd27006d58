package shards_test

import (
	"math"
	"slices"
	"sync"
	"testing"

	"abacus/api"
	"abacus/shards"
)

const top = math.MaxUint64

// made is a counter whose cells have these numbers.
func made(t *testing.T, has ...uint64) *shards.Counter {
	t.Helper()
	c, why := shards.New(len(has))
	if c == nil || why != api.OK {
		t.Fatalf("New(%d): error %d", len(has), why)
	}
	for worker, x := range has {
		c.Add(worker, x)
	}
	return c
}

func TestNew(t *testing.T) { // 4.1
	for _, n := range []int{0, -1, api.MaxWorkers + 1, math.MinInt, math.MaxInt} {
		if c, why := shards.New(n); c != nil || why != api.ErrRange {
			t.Errorf("New(%d): error %d", n, why)
		}
	}
	for _, n := range []int{1, 2, 63, api.MaxWorkers} {
		c, why := shards.New(n)
		if c == nil || why != api.OK || c.Len() != n || !slices.Equal(c.All(), make([]uint64, n)) || c.Sum() != 0 {
			t.Errorf("New(%d): error %d, %d cells: %v", n, why, c.Len(), c.All())
		}
	}
}

func TestWorkersCells(t *testing.T) { // 4.1, 4.2
	for _, n := range []int{1, 2, 3, api.MaxWorkers} {
		c := made(t, make([]uint64, n)...)
		want := make([]uint64, n)
		for i, worker := range []int{0, 1, 2, 3, 4, n - 1, n, n + 1, 63, 64, 1000003, math.MaxInt} {
			by := uint64(1) << i
			want[worker%n] += by
			if got, why := c.Add(worker, by); got != want[worker%n] || why != api.OK {
				t.Errorf("%d cells: Add(%d, %d): %d, error %d", n, worker, by, got, why)
			}
			if got, why := c.Read(worker); got != want[worker%n] || why != api.OK {
				t.Errorf("%d cells: Read(%d): %d, error %d", n, worker, got, why)
			}
			if got := c.All(); !slices.Equal(got, want) {
				t.Errorf("%d cells: All: %v, want %v", n, got, want)
			}
		}
	}
}

func TestWorkersBelow0(t *testing.T) { // 4.2
	c := made(t, 5, 6)
	for _, worker := range []int{-1, -2, math.MinInt} {
		if got, why := c.Add(worker, 1); got != 0 || why != api.ErrRange {
			t.Errorf("Add(%d, 1): %d, error %d", worker, got, why)
		}
		if got, why := c.Read(worker); got != 0 || why != api.ErrRange {
			t.Errorf("Read(%d): %d, error %d", worker, got, why)
		}
	}
	if got := c.All(); !slices.Equal(got, []uint64{5, 6}) {
		t.Error("a refused call does something:", got)
	}
}

func TestSumAndTake(t *testing.T) { // 4.2
	for _, x := range []struct {
		has []uint64
		sum uint64
	}{
		{[]uint64{0}, 0},
		{[]uint64{7}, 7},
		{[]uint64{1, 2, 4, 8}, 15},
		{[]uint64{top, 3}, 2},
		{[]uint64{1 << 63, 5, 1 << 63}, 5},
		{[]uint64{top, 1}, 0},
		{slices.Repeat([]uint64{3}, api.MaxWorkers), 3 * api.MaxWorkers},
	} {
		c := made(t, x.has...)
		if a, b := c.Sum(), c.Sum(); a != x.sum || b != x.sum || !slices.Equal(c.All(), x.has) {
			t.Errorf("%v: Sum %d, %d, then %v", x.has, a, b, c.All())
		}
		if a, b := c.Take(), c.Take(); a != x.sum || b != 0 || !slices.Equal(c.All(), make([]uint64, len(x.has))) || c.Sum() != 0 {
			t.Errorf("%v: Take %d, %d, then %v", x.has, a, b, c.All())
		}
	}
}

func TestAddGoesRound(t *testing.T) { // 4.2
	c := made(t, top, 9)
	if got, why := c.Add(2, 3); got != 2 || why != api.OK || !slices.Equal(c.All(), []uint64{2, 9}) {
		t.Error(got, why, c.All())
	}
}

func TestExample(t *testing.T) { // example 1
	c := made(t, 0, 0)
	for i, x := range []struct {
		worker int
		by     uint64
		want   uint64
	}{{0, 5, 5}, {1, 7, 7}, {2, 1, 6}} {
		if got, why := c.Add(x.worker, x.by); got != x.want || why != api.OK {
			t.Errorf("Add %d: %d, error %d", i, got, why)
		}
	}
	if c.Sum() != 13 || !slices.Equal(c.All(), []uint64{6, 7}) {
		t.Error("Sum, All:", c.Sum(), c.All())
	}
	if got, why := c.Read(3); got != 7 || why != api.OK {
		t.Error("Read:", got, why)
	}
	if a, b := c.Take(), c.Sum(); a != 13 || b != 0 {
		t.Error("Take, Sum:", a, b)
	}
}

func TestNil(t *testing.T) { // 4.6
	var c *shards.Counter
	if c.Len() != 0 || len(c.All()) != 0 || c.Sum() != 0 || c.Take() != 0 {
		t.Error("a nil counter answers something")
	}
	for _, worker := range []int{0, 3, -1} {
		if got, why := c.Add(worker, 1); got != 0 || why != api.ErrNil {
			t.Errorf("Add(%d, 1) of a nil counter: %d, error %d", worker, got, why)
		}
		if got, why := c.Read(worker); got != 0 || why != api.ErrNil {
			t.Errorf("Read(%d) of a nil counter: %d, error %d", worker, got, why)
		}
	}
	for _, op := range []api.ShardOp{{Kind: api.ShardSum}, {}, {Kind: api.ShardAdd, Worker: -1}} {
		if p, why := c.Start(op); p != nil || why != api.ErrNil {
			t.Errorf("Start(%v) of a nil counter: error %d", op, why)
		}
	}
	var p *shards.Pending
	for range 2 {
		if did, last := p.Step(); did != (api.Did{}) || !last {
			t.Error("Step of a nil operation:", did, last)
		}
	}
	if !p.Done() || p.Answer() != 0 {
		t.Error("a nil operation:", p.Done(), p.Answer())
	}
}

func TestAnswersAreNewMemory(t *testing.T) { // 4.6
	c := made(t, 1, 2)
	first := c.All()
	first[0] = 99
	first = append(first, 7)
	if second := c.All(); !slices.Equal(second, []uint64{1, 2}) || first[0] != 99 {
		t.Error("All hands out what it keeps:", second)
	}
}

func TestTwoCountersAreApart(t *testing.T) { // P4
	a, b := made(t, 1), made(t, 1)
	a.Add(0, 5)
	a.Take()
	if b.Sum() != 1 {
		t.Error("what is done to one is done to the other")
	}
}

func TestPlainCallsByMany(t *testing.T) { // 4.2, 4.7, 4.8
	const workers, each = 8, 5000
	for _, n := range []int{1, 3, workers} {
		c := made(t, make([]uint64, n)...)
		var wait sync.WaitGroup
		for worker := range workers {
			wait.Go(func() {
				var last uint64
				for range each {
					got, why := c.Add(worker, 3)
					if why != api.OK || got <= last {
						t.Errorf("Add answers %d behind %d, error %d", got, last, why)
					}
					last = got
				}
			})
		}
		wait.Go(func() {
			var last uint64
			for range each {
				sum := c.Sum()
				if sum < last {
					t.Errorf("Sum falls from %d to %d", last, sum)
				}
				last = sum
			}
		})
		wait.Wait()
		if c.Sum() != 3*workers*each {
			t.Errorf("%d cells: something is lost: %d", n, c.Sum())
		}
	}
}

func TestTakesByMany(t *testing.T) { // 4.2, 4.9
	const workers, each = 8, 2000
	c := made(t, make([]uint64, 3)...)
	taken := make([]uint64, workers)
	var wait sync.WaitGroup
	for worker := range workers {
		wait.Go(func() {
			for range each {
				c.Add(worker, 1)
				taken[worker] += c.Take()
			}
		})
	}
	wait.Wait()
	sum := c.Sum()
	for _, x := range taken {
		sum += x
	}
	if sum != workers*each {
		t.Error("taken and left:", sum)
	}
}
