package shards_test

import (
	"math"
	"math/rand"
	"slices"
	"sync"
	"testing"

	"abacus/api"
	"abacus/shards"
)

func begin(t *testing.T, c *shards.Counter, op api.ShardOp) *shards.Pending {
	t.Helper()
	p, why := c.Start(op)
	if p == nil || why != api.OK {
		t.Fatalf("Start(%v): error %d", op, why)
	}
	return p
}

func TestStartRefuses(t *testing.T) { // 4.3
	c := made(t, 5, 6)
	for _, op := range []api.ShardOp{
		{}, {Kind: api.ShardNone, Worker: 1}, {Kind: api.ShardCount}, {Kind: 255},
		{Kind: api.ShardAdd, Worker: -1, By: 1}, {Kind: api.ShardAdd, Worker: math.MinInt},
		{Kind: api.ShardRead, Worker: -1}, {Kind: api.ShardRead, Worker: 1, By: 1}, {Kind: api.ShardRead, By: top},
		{Kind: api.ShardSum, Worker: 1}, {Kind: api.ShardSum, Worker: -1}, {Kind: api.ShardSum, By: 1},
		{Kind: api.ShardTake, Worker: 1}, {Kind: api.ShardTake, Worker: -1}, {Kind: api.ShardTake, By: 1},
	} {
		if p, why := c.Start(op); p != nil || why != api.ErrRange {
			t.Errorf("Start(%v): error %d", op, why)
		}
	}
	for _, op := range []api.ShardOp{
		{Kind: api.ShardAdd}, {Kind: api.ShardAdd, Worker: math.MaxInt, By: top}, {Kind: api.ShardRead}, {Kind: api.ShardRead, Worker: 64}, {Kind: api.ShardSum}, {Kind: api.ShardTake},
	} {
		if p := begin(t, c, op); p.Done() || p.Answer() != 0 {
			t.Errorf("%v, of which nothing is done yet: %v, %v", op, p.Done(), p.Answer())
		}
	}
	if got := c.All(); !slices.Equal(got, []uint64{5, 6}) {
		t.Error("Start does something:", got)
	}
}

func did(kind api.ActKind, cell int, saw, put uint64) api.Did {
	return api.Did{Kind: kind, Cell: cell, Saw: saw, Put: put, Ok: true}
}

func TestStepsAlone(t *testing.T) { // 4.3
	for _, x := range []struct {
		has    []uint64
		op     api.ShardOp
		steps  []api.Did
		answer uint64
	}{
		{[]uint64{5, 6}, api.ShardOp{Kind: api.ShardAdd, By: 4}, []api.Did{did(api.ActAdd, 0, 5, 9)}, 9},
		{[]uint64{5, 6}, api.ShardOp{Kind: api.ShardAdd, Worker: 7, By: 4}, []api.Did{did(api.ActAdd, 1, 6, 10)}, 10},
		{[]uint64{5, 6}, api.ShardOp{Kind: api.ShardAdd, Worker: 1}, []api.Did{did(api.ActAdd, 1, 6, 6)}, 6},
		{[]uint64{5}, api.ShardOp{Kind: api.ShardAdd, Worker: math.MaxInt, By: top}, []api.Did{did(api.ActAdd, 0, 5, 4)}, 4},
		{[]uint64{5, 6}, api.ShardOp{Kind: api.ShardRead}, []api.Did{did(api.ActLoad, 0, 5, 5)}, 5},
		{[]uint64{5, 6}, api.ShardOp{Kind: api.ShardRead, Worker: 3}, []api.Did{did(api.ActLoad, 1, 6, 6)}, 6},
		{[]uint64{5}, api.ShardOp{Kind: api.ShardSum}, []api.Did{did(api.ActLoad, 0, 5, 5)}, 5},
		{[]uint64{5, 6, top}, api.ShardOp{Kind: api.ShardSum}, []api.Did{did(api.ActLoad, 0, 5, 5), did(api.ActLoad, 1, 6, 6), did(api.ActLoad, 2, top, top)}, 10},
		{[]uint64{5}, api.ShardOp{Kind: api.ShardTake}, []api.Did{did(api.ActSwap, 0, 5, 0)}, 5},
		{[]uint64{5, 0, top}, api.ShardOp{Kind: api.ShardTake}, []api.Did{did(api.ActSwap, 0, 5, 0), did(api.ActSwap, 1, 0, 0), did(api.ActSwap, 2, top, 0)}, 4},
	} {
		c := made(t, x.has...)
		p := begin(t, c, x.op)
		for i, want := range x.steps {
			if p.Done() || p.Answer() != 0 {
				t.Errorf("%v, %v ahead of step %d: %v, %v", x.has, x.op, i, p.Done(), p.Answer())
			}
			got, last := p.Step()
			if got != want || last != (i == len(x.steps)-1) || c.All()[want.Cell] != want.Put {
				t.Errorf("%v, %v, step %d: %v, %v, cells %v", x.has, x.op, i, got, last, c.All())
			}
		}
		behind := c.All()
		for range 2 {
			if got, last := p.Step(); got != (api.Did{}) || !last || !p.Done() || p.Answer() != x.answer {
				t.Errorf("%v, %v at its end: %v, %v, %v, %v", x.has, x.op, got, last, p.Done(), p.Answer())
			}
		}
		if !slices.Equal(c.All(), behind) {
			t.Errorf("%v, %v: a step behind the last one does something: %v", x.has, x.op, c.All())
		}
	}
}

func TestSumUnderWay(t *testing.T) { // example 2
	c := made(t, 5, 0)
	p := begin(t, c, api.ShardOp{Kind: api.ShardSum})
	if got, last := p.Step(); got != did(api.ActLoad, 0, 5, 5) || last || p.Done() || p.Answer() != 0 {
		t.Error("the first step:", got, last, p.Answer())
	}
	c.Add(0, 1)
	c.Add(1, 2)
	if got, last := p.Step(); got != did(api.ActLoad, 1, 2, 2) || !last || p.Answer() != 7 {
		t.Error("the second step:", got, last, p.Answer())
	}
}

func TestTakeUnderWay(t *testing.T) { // example 3
	c := made(t, 5, 2)
	p := begin(t, c, api.ShardOp{Kind: api.ShardTake})
	p.Step()
	c.Add(0, 1)
	if _, last := p.Step(); !last || p.Answer() != 7 || c.Sum() != 1 || !slices.Equal(c.All(), []uint64{1, 0}) {
		t.Error("the Take:", p.Answer(), c.All())
	}
}

// shadow is an operation on numbers of its own, as the document tells its actions; added is what all had added ahead of its first and of its last action.
type shadow struct {
	op            api.ShardOp
	cell          int
	begun, over   bool
	answer        uint64
	first, latest uint64
}

func (s *shadow) step(has []uint64, added uint64) api.Did {
	if !s.begun {
		s.begun, s.first = true, added
	}
	s.latest = added
	switch s.op.Kind {
	case api.ShardAdd, api.ShardRead:
		s.cell, s.over = s.op.Worker%len(has), true
	default:
		s.over = s.cell == len(has)-1
	}
	d := did(api.ActLoad, s.cell, has[s.cell], has[s.cell])
	switch s.op.Kind {
	case api.ShardAdd:
		d.Kind, d.Put = api.ActAdd, d.Saw+s.op.By
		s.answer = d.Put
	case api.ShardTake:
		d.Kind, d.Put = api.ActSwap, 0
		s.answer += d.Saw
	default:
		s.answer += d.Saw
	}
	has[s.cell] = d.Put
	s.cell++
	return d
}

func sum(l []uint64) uint64 {
	var s uint64
	for _, x := range l {
		s += x
	}
	return s
}

// course is operations on a counter, each with its shadow, and what was added to it.
type course struct {
	c       *shards.Counter
	has     []uint64
	pending []*shards.Pending
	shadows []*shadow
	added   uint64
}

// step steps an operation, if it has not ended, holds the step against the shadow's, and lets look see the shadow at its end.
func (x *course) step(t *testing.T, i int, look func(s *shadow)) {
	p, s := x.pending[i], x.shadows[i]
	if s.over {
		return
	}
	want := s.step(x.has, x.added)
	if s.op.Kind == api.ShardAdd {
		x.added += s.op.By
	}
	if got, last := p.Step(); got != want || last != s.over || p.Done() != s.over {
		t.Fatalf("%v: %v, %v, want %v, %v", s.op, got, last, want, s.over)
	}
	if !s.over {
		if p.Answer() != 0 {
			t.Fatalf("%v answers %d under way", s.op, p.Answer())
		}
		return
	}
	if p.Answer() != s.answer {
		t.Fatalf("%v answers %d, want %d", s.op, p.Answer(), s.answer)
	}
	look(s)
}

// anySchedule steps random operations of some kinds in random turns, and at last each till its end.
func anySchedule(t *testing.T, r *rand.Rand, kinds []api.ShardKind, most int64, look func(s *shadow)) (*shards.Counter, uint64) {
	x := &course{has: make([]uint64, 1+r.Intn(4))}
	x.c = made(t, x.has...)
	for range 60 {
		if len(x.pending) == 0 || r.Intn(4) == 0 {
			op := api.ShardOp{Kind: kinds[r.Intn(len(kinds))]}
			if op.Kind == api.ShardAdd || op.Kind == api.ShardRead {
				op.Worker = r.Intn(10)
			}
			if op.Kind == api.ShardAdd {
				op.By = uint64(r.Int63n(most))
			}
			x.pending = append(x.pending, begin(t, x.c, op))
			x.shadows = append(x.shadows, &shadow{op: op})
		}
		x.step(t, r.Intn(len(x.pending)), look)
	}
	for i, s := range x.shadows {
		for !s.over {
			x.step(t, i, look)
		}
	}
	if !slices.Equal(x.c.All(), x.has) {
		t.Fatalf("the cells have %v, want %v", x.c.All(), x.has)
	}
	return x.c, x.added
}

func TestAnySchedule(t *testing.T) { // 4.3, 4.7, 4.9
	r := rand.New(rand.NewSource(1))
	kinds := []api.ShardKind{api.ShardAdd, api.ShardAdd, api.ShardRead, api.ShardSum, api.ShardTake}
	for _, most := range []int64{10, math.MaxInt64} {
		for range 2000 {
			var taken uint64
			c, added := anySchedule(t, r, kinds, most, func(s *shadow) {
				if s.op.Kind == api.ShardTake {
					taken += s.answer
				}
			})
			left := c.Sum()
			if taken+left != added {
				t.Fatalf("taken %d, left %d, added %d", taken, left, added)
			}
			if c.Take() != left || c.Sum() != 0 {
				t.Fatal("what is left is not what is taken:", left)
			}
		}
	}
}

func TestBetween(t *testing.T) { // 4.8
	r := rand.New(rand.NewSource(2))
	under := 0
	for range 4000 {
		var ended []*shadow
		c, added := anySchedule(t, r, []api.ShardKind{api.ShardAdd, api.ShardAdd, api.ShardSum}, 10, func(s *shadow) {
			if s.op.Kind != api.ShardSum {
				return
			}
			if s.answer < s.first || s.answer > s.latest {
				t.Fatalf("a Sum of %d: ahead of it %d, of its last action %d", s.answer, s.first, s.latest)
			}
			if s.answer < s.latest {
				under++
			}
			ended = append(ended, s)
		})
		for _, s := range ended {
			if s.answer > added {
				t.Fatalf("a Sum of %d, of %d", s.answer, added)
			}
		}
		if c.Sum() != added {
			t.Fatalf("still: %d, added %d", c.Sum(), added)
		}
	}
	if under == 0 {
		t.Error("no Sum missed anything")
	}
}

func TestSumsRise(t *testing.T) { // 4.8
	r := rand.New(rand.NewSource(3))
	for range 1000 {
		c := made(t, make([]uint64, 1+r.Intn(4))...)
		var last uint64
		for range 10 {
			p := begin(t, c, api.ShardOp{Kind: api.ShardSum})
			for !p.Done() {
				for range r.Intn(4) {
					c.Add(r.Intn(10), uint64(r.Intn(5)))
				}
				p.Step()
			}
			if p.Answer() < last {
				t.Fatalf("of two Sums one behind the other the second is less: %d, %d", last, p.Answer())
			}
			last = p.Answer()
		}
	}
}

// every goes through all schedules by which the operations end.
func every(t *testing.T, n int, ops []api.ShardOp, schedule []int, look func(c *shards.Counter, pending []*shards.Pending)) {
	c := made(t, make([]uint64, n)...)
	var pending []*shards.Pending
	for _, op := range ops {
		pending = append(pending, begin(t, c, op))
	}
	for _, i := range schedule {
		pending[i].Step()
	}
	ended := true
	for i, p := range pending {
		if !p.Done() {
			ended = false
			every(t, n, ops, append(slices.Clip(schedule), i), look)
		}
	}
	if ended {
		look(c, pending)
	}
}

func TestNothingLostNothingTwice(t *testing.T) { // 4.7, 4.9
	ops := []api.ShardOp{
		{Kind: api.ShardAdd, By: 1}, {Kind: api.ShardAdd, Worker: 1, By: 2}, {Kind: api.ShardAdd, Worker: 3, By: top - 5},
		{Kind: api.ShardTake}, {Kind: api.ShardTake},
	}
	crossed := 0
	every(t, 2, ops, nil, func(c *shards.Counter, pending []*shards.Pending) {
		one, two, left := pending[3].Answer(), pending[4].Answer(), c.Sum()
		if one+two+left != top-2 {
			t.Fatalf("taken %d and %d, left %d", one, two, left)
		}
		if one != 0 && two != 0 && left != 0 {
			crossed++
		}
	})
	if crossed == 0 {
		t.Error("no schedule parts what was added")
	}
}

func TestStepsByMany(t *testing.T) { // 4.3, 4.9
	const workers, each = 8, 1000
	c := made(t, make([]uint64, 5)...)
	taken := make([]uint64, workers)
	var wait sync.WaitGroup
	for worker := range workers {
		wait.Go(func() {
			for i := range each {
				op := api.ShardOp{Kind: api.ShardAdd, Worker: worker, By: 2}
				if i%3 == 2 {
					op = api.ShardOp{Kind: api.ShardTake}
				}
				p, why := c.Start(op)
				for last := why != api.OK; !last; {
					_, last = p.Step()
				}
				if i%3 == 2 {
					taken[worker] += p.Answer()
				}
			}
		})
	}
	wait.Wait()
	if got := sum(taken) + c.Sum(); got != 2*workers*(each-each/3) {
		t.Error("taken and left:", got)
	}
}
