package ring_test

import (
	"math"
	"math/rand"
	"slices"
	"sync"
	"testing"

	"abacus/api"
	"abacus/ring"
)

func add(at int64, n uint64) api.RingOp {
	return api.RingOp{Kind: api.RingAdd, T: at, N: n}
}

func sum(at int64) api.RingOp {
	return api.RingOp{Kind: api.RingSum, T: at}
}

func begin(t *testing.T, r *ring.Ring, op api.RingOp) *ring.Pending {
	t.Helper()
	p, why := r.Start(op)
	if p == nil || why != api.OK {
		t.Fatalf("Start(%v): error %d", op, why)
	}
	return p
}

// answers tells whether an operation answers this.
func answers(p *ring.Pending, want uint64, why api.Errno) bool {
	got, err := p.Answer()
	return got == want && err == why
}

func TestStartRefuses(t *testing.T) { // 5.2
	r := made(t, 2, 10)
	adds(t, r, 0, 7, api.OK)
	for _, x := range []struct {
		op   api.RingOp
		want api.Errno
	}{
		{api.RingOp{}, api.ErrAct}, {api.RingOp{Kind: api.RingCount}, api.ErrAct}, {api.RingOp{Kind: 255, T: 1, N: 1}, api.ErrAct},
		{api.RingOp{Kind: api.RingSum, N: 1}, api.ErrAct}, {api.RingOp{Kind: api.RingSum, N: math.MaxUint64}, api.ErrAct},
		{api.RingOp{Kind: api.RingNone, T: -1}, api.ErrAct}, {api.RingOp{Kind: api.RingNone, N: most + 1}, api.ErrAct}, // what may not be comes ahead of its numbers
		{api.RingOp{Kind: api.RingSum, T: -1, N: 1}, api.ErrAct}, {api.RingOp{Kind: api.RingSum, T: math.MaxInt64, N: most + 1}, api.ErrAct},
		{add(-1, 1), api.ErrRange}, {add(math.MinInt64, 1), api.ErrRange}, {add(10*lastTick+10, 1), api.ErrRange}, {add(math.MaxInt64, 1), api.ErrRange},
		{add(0, most+1), api.ErrRange}, {add(0, math.MaxUint64), api.ErrRange},
		{sum(-1), api.ErrRange}, {sum(-10), api.ErrRange}, {sum(10*lastTick + 10), api.ErrRange}, {sum(math.MaxInt64), api.ErrRange},
	} {
		if p, why := r.Start(x.op); p != nil || why != x.want {
			t.Errorf("Start(%v): error %d, want %d", x.op, why, x.want)
		}
	}
	for _, op := range []api.RingOp{add(0, 0), add(0, most), add(10*lastTick+9, most), sum(0), sum(10*lastTick + 9)} {
		if p := begin(t, r, op); p.Done() || !answers(p, 0, api.OK) {
			t.Errorf("%v, of which nothing is done yet, has ended", op)
		}
	}
	shows(t, r, 0, 7)
}

func word(tick, count uint64) uint64 {
	return tick<<32 | count
}

func loads(cell int, saw uint64) api.Did {
	return api.Did{Kind: api.ActLoad, Cell: cell, Saw: saw, Put: saw, Ok: true}
}

func puts(cell int, saw, put uint64) api.Did {
	return api.Did{Kind: api.ActCas, Cell: cell, Saw: saw, Put: put, Ok: true}
}

func fails(cell int, saw uint64) api.Did {
	return api.Did{Kind: api.ActCas, Cell: cell, Saw: saw, Put: saw}
}

func TestStepsAlone(t *testing.T) { // 5.2, and the words
	for _, x := range []struct {
		slots  int
		width  int64
		has    []api.RingOp
		op     api.RingOp
		steps  []api.Did
		answer uint64
		why    api.Errno
	}{
		{3, 10, nil, add(9, 4), []api.Did{loads(0, 0), puts(0, 0, 4)}, 4, api.OK},
		{3, 10, nil, add(0, 0), []api.Did{loads(0, 0), puts(0, 0, 0)}, 0, api.OK},
		{3, 10, []api.RingOp{add(3, 5)}, add(0, 4), []api.Did{loads(0, 5), puts(0, 5, 9)}, 9, api.OK},
		{3, 10, nil, add(25, 4), []api.Did{loads(2, 0), puts(2, 0, word(2, 4))}, 4, api.OK},
		{3, 10, []api.RingOp{add(20, 5)}, add(59, 4), []api.Did{loads(2, word(2, 5)), puts(2, word(2, 5), word(5, 4))}, 4, api.OK},
		{3, 10, []api.RingOp{add(20, most)}, add(59, most), []api.Did{loads(2, word(2, most)), puts(2, word(2, most), word(5, most))}, most, api.OK},
		{3, 10, []api.RingOp{add(59, 5)}, add(29, 4), []api.Did{loads(2, word(5, 5))}, 0, api.ErrLate},
		{3, 10, []api.RingOp{add(59, most)}, add(29, most), []api.Did{loads(2, word(5, most))}, 0, api.ErrLate},
		{3, 10, []api.RingOp{add(59, 0)}, add(29, 0), []api.Did{loads(2, word(5, 0))}, 0, api.ErrLate},
		{3, 10, []api.RingOp{add(59, most)}, add(50, 1), []api.Did{loads(2, word(5, most))}, 0, api.ErrFull},
		{3, 10, []api.RingOp{add(59, 1)}, add(50, most), []api.Did{loads(2, word(5, 1))}, 0, api.ErrFull},
		{3, 10, []api.RingOp{add(59, most)}, add(50, 0), []api.Did{loads(2, word(5, most)), puts(2, word(5, most), word(5, most))}, most, api.OK},
		{3, 10, []api.RingOp{add(59, 1)}, add(50, most-1), []api.Did{loads(2, word(5, 1)), puts(2, word(5, 1), word(5, most))}, most, api.OK},
		{2, 1, nil, add(lastTick, most), []api.Did{loads(1, 0), puts(1, 0, math.MaxUint64)}, most, api.OK},
		{api.MaxSlots, 1, nil, add(api.MaxSlots-1, 1), []api.Did{loads(api.MaxSlots-1, 0), puts(api.MaxSlots-1, 0, word(api.MaxSlots-1, 1))}, 1, api.OK},

		{3, 10, []api.RingOp{add(0, 5)}, sum(9), []api.Did{loads(0, 5)}, 5, api.OK},
		{3, 10, []api.RingOp{add(0, 5), add(19, 2)}, sum(10), []api.Did{loads(0, 5), loads(1, word(1, 2))}, 7, api.OK},
		{3, 10, []api.RingOp{add(30, 5), add(19, 2), add(20, 3)}, sum(39), []api.Did{loads(1, word(1, 2)), loads(2, word(2, 3)), loads(0, word(3, 5))}, 10, api.OK},
		{3, 10, []api.RingOp{add(30, 5), add(19, 2), add(20, 3)}, sum(40), []api.Did{loads(2, word(2, 3)), loads(0, word(3, 5)), loads(1, word(1, 2))}, 8, api.OK},
		{3, 10, []api.RingOp{add(30, 5), add(19, 2), add(20, 3)}, sum(29), []api.Did{loads(0, word(3, 5)), loads(1, word(1, 2)), loads(2, word(2, 3))}, 5, api.OK},
		{2, 1, []api.RingOp{add(lastTick-1, most), add(lastTick, most)}, sum(lastTick), []api.Did{loads(0, word(lastTick-1, most)), loads(1, word(lastTick, most))}, 2 * most, api.OK},
	} {
		r := made(t, x.slots, x.width)
		for _, op := range x.has {
			adds(t, r, op.T, op.N, api.OK)
		}
		p := begin(t, r, x.op)
		for i, want := range x.steps {
			if p.Done() || !answers(p, 0, api.OK) {
				t.Errorf("%v, %v: ended ahead of step %d", x.has, x.op, i)
			}
			if got, ended := p.Step(); got != want || ended != (i == len(x.steps)-1) {
				t.Errorf("%v, %v, step %d: %v, %v", x.has, x.op, i, got, ended)
			}
		}
		for range 2 {
			if got, ended := p.Step(); got != (api.Did{}) || !ended || !p.Done() || !answers(p, x.answer, x.why) {
				n, why := p.Answer()
				t.Errorf("%v, %v at its end: %v, %v, %d, error %d", x.has, x.op, got, ended, n, why)
			}
		}
	}
}

func TestExampleOfTurns(t *testing.T) { // example 3
	r := made(t, 3, 10)
	two := []*ring.Pending{begin(t, r, add(0, 1)), begin(t, r, add(0, 1))}
	want := []api.Did{loads(0, 0), loads(0, 0), puts(0, 0, 1), fails(0, 1), loads(0, 1), puts(0, 1, 2)}
	for i, n := range []int{0, 1, 0, 1, 1, 1} {
		if got, ended := two[n].Step(); got != want[i] || ended != (i == 2 || i == 5) {
			t.Errorf("step %d: %v, %v", i, got, ended)
		}
	}
	if !answers(two[0], 1, api.OK) || !answers(two[1], 2, api.OK) {
		t.Error("the answers are others")
	}
	shows(t, r, 0, 2)
}

// Behind an ActCas that is not done all is looked at anew: the cell may be full, or serve a later tick, by now.
func TestCasNotDone(t *testing.T) { // 5.2, 5.8
	for _, x := range []struct {
		name   string
		first  api.RingOp // what is there at first
		op     api.RingOp
		meet   api.RingOp // what comes between its load and its swap
		steps  []api.Did
		answer uint64
		why    api.Errno
		behind []uint64 // what Each tells at 5, of two slots
	}{
		{"more in the same tick", add(5, 1), add(5, 2), add(5, 4),
			[]api.Did{loads(1, word(5, 1)), fails(1, word(5, 5)), loads(1, word(5, 5)), puts(1, word(5, 5), word(5, 7))}, 7, api.OK, []uint64{0, 7}},
		{"turned over to its tick", add(3, 1), add(5, 2), add(5, 4),
			[]api.Did{loads(1, word(3, 1)), fails(1, word(5, 4)), loads(1, word(5, 4)), puts(1, word(5, 4), word(5, 6))}, 6, api.OK, []uint64{0, 6}},
		{"turned over to its tick, with nothing", add(3, 1), add(5, 2), add(5, 0),
			[]api.Did{loads(1, word(3, 1)), fails(1, word(5, 0)), loads(1, word(5, 0)), puts(1, word(5, 0), word(5, 2))}, 2, api.OK, []uint64{0, 2}},
		{"turned over, but not so far", add(1, 1), add(5, 2), add(3, 4),
			[]api.Did{loads(1, word(1, 1)), fails(1, word(3, 4)), loads(1, word(3, 4)), puts(1, word(3, 4), word(5, 2))}, 2, api.OK, []uint64{0, 2}},
		{"turned over to a later one", add(5, 1), add(5, 2), add(7, 4),
			[]api.Did{loads(1, word(5, 1)), fails(1, word(7, 4)), loads(1, word(7, 4))}, 0, api.ErrLate, []uint64{0, 0}},
		{"full", add(5, 1), add(5, 2), add(5, most-1),
			[]api.Did{loads(1, word(5, 1)), fails(1, word(5, most)), loads(1, word(5, most))}, 0, api.ErrFull, []uint64{0, most}},
		{"nothing more: the word is the same", add(5, 1), add(5, 2), add(5, 0),
			[]api.Did{loads(1, word(5, 1)), puts(1, word(5, 1), word(5, 3))}, 3, api.OK, []uint64{0, 3}},
		{"another cell", add(5, 1), add(5, 2), add(4, 8),
			[]api.Did{loads(1, word(5, 1)), puts(1, word(5, 1), word(5, 3))}, 3, api.OK, []uint64{8, 3}},
	} {
		r := made(t, 2, 1)
		adds(t, r, x.first.T, x.first.N, api.OK)
		p := begin(t, r, x.op)
		for i, want := range x.steps {
			if i == 1 {
				adds(t, r, x.meet.T, x.meet.N, api.OK)
			}
			if p.Done() || !answers(p, 0, api.OK) {
				t.Errorf("%s: ended ahead of step %d", x.name, i)
			}
			if got, ended := p.Step(); got != want || ended != (i == len(x.steps)-1) {
				t.Errorf("%s, step %d: %v, %v", x.name, i, got, ended)
			}
		}
		if !answers(p, x.answer, x.why) {
			got, why := p.Answer()
			t.Errorf("%s: answers %d, error %d", x.name, got, why)
		}
		shows(t, r, 5, x.behind...)
	}
}

// shadow is an operation on words of its own, as the document tells its actions.
type shadow struct {
	op           api.RingOp
	tick, from   int64
	loaded, over bool
	saw, answer  uint64
	why          api.Errno
}

func shade(op api.RingOp, slots int, width int64) *shadow {
	s := &shadow{op: op, tick: op.T / width}
	s.from = max(0, s.tick-int64(slots)+1)
	return s
}

func (s *shadow) step(has []uint64) api.Did {
	if s.op.Kind == api.RingSum {
		return s.gather(has)
	}
	cell := int(s.tick) % len(has)
	if !s.loaded {
		s.loaded, s.saw = true, has[cell]
		switch tick := int64(s.saw >> 32); {
		case tick > s.tick:
			s.over, s.why = true, api.ErrLate
		case tick == s.tick && s.saw&most+s.op.N > most:
			s.over, s.why = true, api.ErrFull
		}
		return loads(cell, s.saw)
	}
	if has[cell] != s.saw {
		s.loaded = false
		return fails(cell, has[cell])
	}
	has[cell] = word(uint64(s.tick), s.op.N)
	if int64(s.saw>>32) == s.tick {
		has[cell] += s.saw & most
	}
	s.over, s.answer = true, has[cell]&most
	return puts(cell, s.saw, has[cell])
}

func (s *shadow) gather(has []uint64) api.Did {
	cell := int(s.from) % len(has)
	if int64(has[cell]>>32) == s.from {
		s.answer += has[cell] & most
	}
	s.over = s.from == s.tick
	s.from++
	return loads(cell, has[cell])
}

func TestAnySchedule(t *testing.T) { // 5.2, 5.8
	r := rand.New(rand.NewSource(2))
	seen := map[api.Errno]int{}
	for range 3000 {
		slots, width := 1+r.Intn(4), 1+r.Int63n(10)
		x := made(t, slots, width)
		has := make([]uint64, slots)
		var pending []*ring.Pending
		var shadows []*shadow
		for range 60 {
			if len(pending) == 0 || r.Intn(5) == 0 {
				op := api.RingOp{Kind: api.RingAdd, T: r.Int63n(7 * width), N: uint64(r.Intn(3))}
				switch r.Intn(4) {
				case 0:
					op.N = most - uint64(r.Intn(3))
				case 1:
					op.Kind, op.N = api.RingSum, 0
				}
				pending = append(pending, begin(t, x, op))
				shadows = append(shadows, shade(op, slots, width))
			}
			n := r.Intn(len(pending))
			p, s := pending[n], shadows[n]
			if s.over {
				continue
			}
			ahead := slices.Clone(has)
			want := s.step(has)
			if got, ended := p.Step(); got != want || ended != s.over || p.Done() != s.over {
				t.Fatalf("%v: %v, %v, want %v, %v", s.op, got, ended, want, s.over)
			}
			if s.over && !answers(p, s.answer, s.why) || !s.over && !answers(p, 0, api.OK) {
				t.Fatalf("%v answers another thing than %d, error %d", s.op, s.answer, s.why)
			}
			if s.over {
				seen[s.why]++
			}
			for i := range has {
				if has[i]>>32 < ahead[i]>>32 || s.why != api.OK && has[i] != ahead[i] {
					t.Fatalf("%v, error %d: cell %d from %x to %x", s.op, s.why, i, ahead[i], has[i])
				}
			}
		}
	}
	if seen[api.OK] == 0 || seen[api.ErrLate] == 0 || seen[api.ErrFull] == 0 {
		t.Error("something never came:", seen)
	}
}

// course is what operations on a new window did by a schedule.
type course struct {
	ring    *ring.Ring
	pending []*ring.Pending
	trace   []api.Event
}

func follow(t *testing.T, slots int, ops []api.RingOp, schedule []int) course {
	c := course{ring: made(t, slots, 10)}
	for _, op := range ops {
		c.pending = append(c.pending, begin(t, c.ring, op))
	}
	for _, n := range schedule {
		d, _ := c.pending[n].Step()
		c.trace = append(c.trace, api.Event{Worker: n, Did: d})
	}
	return c
}

// every goes through all schedules by which the operations end, and looks at each course, under way too.
func every(t *testing.T, slots int, ops []api.RingOp, schedule []int, look func(c course, still bool)) {
	c := follow(t, slots, ops, schedule)
	var left []int
	for n, p := range c.pending {
		if !p.Done() {
			left = append(left, n)
		}
	}
	look(c, len(left) == 0)
	for _, n := range left {
		every(t, slots, ops, append(slices.Clip(schedule), n), look)
	}
}

func TestExactWhenStill(t *testing.T) { // 5.6
	for _, ops := range [][]api.RingOp{
		{add(0, 1), add(0, 2), add(9, 4)},
		{add(20, 1), add(25, 2), add(5, 4)},
		{add(60, 1), add(70, 2), add(89, 4)},
		{add(31, 1<<31), add(30, 1<<31-2), add(50, 1)},
		{add(40, 0), add(40, most), add(40, 0)},
		{add(50, 7), add(20, 0), add(51, 9)}, // no window of three slots: of four
	} {
		for _, slots := range []int{3, 4, 7} {
			if slots == 3 && ops[1].T == 20 {
				continue
			}
			var want uint64
			var latest int64
			for _, op := range ops {
				want, latest = want+op.N, max(latest, op.T)
			}
			every(t, slots, ops, nil, func(c course, still bool) {
				for i, p := range c.pending {
					if _, why := p.Answer(); why != api.OK {
						t.Fatalf("%v ends with error %d by %v", ops[i], why, c.trace)
					}
				}
				if got, why := c.ring.Sum(latest); still && (got != want || why != api.OK) {
					t.Fatalf("of %v: %d, error %d, want %d, by %v", ops, got, why, want, c.trace)
				}
			})
		}
	}
}

func TestBetween(t *testing.T) { // 5.7
	r := rand.New(rand.NewSource(3))
	low, high := 0, 0
	for range 5000 {
		slots := 1 + r.Intn(4)
		first := r.Int63n(5)
		x := made(t, slots, 10)
		look := begin(t, x, sum((first+int64(slots))*10-1))
		var pending []*ring.Pending
		var ops []api.RingOp
		for range 1 + r.Intn(5) {
			op := add(first*10+r.Int63n(int64(slots)*10), uint64(1+r.Intn(9)))
			ops, pending = append(ops, op), append(pending, begin(t, x, op))
		}
		begun := make([]bool, len(ops))
		turn := func() {
			n := r.Intn(len(ops))
			begun[n] = true
			pending[n].Step()
		}
		for range r.Intn(8) {
			turn()
		}
		var ended, most uint64
		for i, p := range pending {
			if p.Done() {
				ended += ops[i].N
			}
		}
		for !look.Done() {
			look.Step()
			for range r.Intn(3) {
				if !look.Done() {
					turn()
				}
			}
		}
		for i, op := range ops {
			if begun[i] {
				most += op.N
			}
		}
		got, why := look.Answer()
		if got < ended || got > most || why != api.OK {
			t.Fatalf("a sum of %d, error %d: ended ahead of it %d, begun %d", got, why, ended, most)
		}
		if got > ended {
			high++
		}
		if got < most {
			low++
		}
	}
	if low == 0 || high == 0 {
		t.Error("no sum stands between:", low, high)
	}
}

// Each of two who turn a cell over has its count in it, and one who comes from a slot behind is late, whatever the schedule.
func TestTurnedByTwo(t *testing.T) { // 5.8
	ends := map[uint64]bool{}
	every(t, 2, []api.RingOp{add(10, 1), add(30, 2), add(30, 4)}, nil, func(c course, still bool) {
		var ticks uint64
		for _, e := range c.trace {
			if e.Did.Put>>32 < ticks {
				t.Fatal("a tick falls:", c.trace)
			}
			ticks = e.Did.Put >> 32
		}
		if !still {
			return
		}
		if l, _ := c.ring.Each(30); !slices.Equal(l, []uint64{0, 6}) {
			t.Fatal("the later slot has", l, "by", c.trace)
		}
		got, why := c.pending[0].Answer()
		if why == api.OK && got != 1 || why != api.OK && (why != api.ErrLate || got != 0) {
			t.Fatal("the sooner slot:", got, why)
		}
		ends[got] = true
	})
	if len(ends) != 2 {
		t.Error("the sooner slot's operation is never, or always, late:", ends)
	}
}

func TestStepsByMany(t *testing.T) { // 5.2, P4
	const workers, each = 8, 500
	r := made(t, 3, 10)
	var wait sync.WaitGroup
	for range workers {
		wait.Go(func() {
			for i := range each {
				p, why := r.Start(add(int64(i%30), 2))
				for ended := why != api.OK; !ended; {
					_, ended = p.Step()
				}
			}
		})
	}
	wait.Wait()
	if got, why := r.Sum(29); got != 2*workers*each || why != api.OK {
		t.Error("something is lost:", got, why)
	}
}
