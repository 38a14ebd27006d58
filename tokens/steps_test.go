package tokens_test

import (
	"math"
	"math/rand"
	"slices"
	"sync"
	"testing"

	"abacus/api"
	"abacus/tokens"
)

func take(at, n int64) api.TokenOp {
	return api.TokenOp{Kind: api.TokenTake, At: at, N: n}
}

func peek(at int64) api.TokenOp {
	return api.TokenOp{Kind: api.TokenPeek, At: at}
}

func begin(t *testing.T, b *tokens.Bucket, op api.TokenOp) *tokens.Pending {
	t.Helper()
	p, why := b.Start(op)
	if p == nil || why != api.OK {
		t.Fatalf("Start(%v): error %d", op, why)
	}
	return p
}

func TestStartRefuses(t *testing.T) { // 6.3, and the words
	b := made(t, 10, 3)
	takes(t, b, 0, 1, given, 10)
	for _, op := range []api.TokenOp{
		{}, {Kind: api.TokenCount}, {Kind: 255, N: 1}, {Kind: api.TokenNone, At: 1, N: 1},
		take(-1, 1), take(math.MinInt64, 1), take(api.MaxAt+1, 1), take(math.MaxInt64, 1),
		take(0, 0), take(0, -1), take(0, math.MinInt64), take(0, api.MaxBurst+1), take(0, math.MaxInt64),
		peek(-1), peek(math.MinInt64), peek(api.MaxAt + 1), peek(math.MaxInt64),
		{Kind: api.TokenPeek, N: 1}, {Kind: api.TokenPeek, N: -1}, {Kind: api.TokenPeek, At: 5, N: api.MaxBurst},
	} {
		if p, why := b.Start(op); p != nil || why != api.ErrRange {
			t.Errorf("Start(%v): error %d", op, why)
		}
	}
	for _, op := range []api.TokenOp{take(0, 1), take(api.MaxAt, 1), take(0, 4), take(0, api.MaxBurst), peek(0), peek(api.MaxAt)} {
		if p := begin(t, b, op); p.Done() || p.Answer() != (api.Took{}) {
			t.Errorf("%v, of which nothing is done yet: %v, %v", op, p.Done(), p.Answer())
		}
	}
	if b.Word() != 10 {
		t.Error("Start does something:", b.Word())
	}
}

func loads(saw uint64) api.Did {
	return api.Did{Kind: api.ActLoad, Saw: saw, Put: saw, Ok: true}
}

func puts(saw, put uint64) api.Did {
	return api.Did{Kind: api.ActCas, Saw: saw, Put: put, Ok: true}
}

func fails(saw uint64) api.Did {
	return api.Did{Kind: api.ActCas, Saw: saw, Put: saw}
}

// steps steps an operation to its end, and holds each step against what is wanted; ahead of the second one it lets meet come between.
func steps(t *testing.T, p *tokens.Pending, want []api.Did, meet func(), answer api.Took) {
	t.Helper()
	for i, d := range want {
		if i == 1 {
			meet()
		}
		if p.Done() || p.Answer() != (api.Took{}) {
			t.Errorf("ahead of step %d: %v, %v", i, p.Done(), p.Answer())
		}
		if got, ended := p.Step(); got != d || ended != (i == len(want)-1) {
			t.Errorf("step %d: %v, %v, want %v", i, got, ended, d)
		}
	}
	for range 2 {
		if got, ended := p.Step(); got != (api.Did{}) || !ended || !p.Done() || p.Answer() != answer {
			t.Errorf("at its end: %v, %v, %v, %v, want %v", got, ended, p.Done(), p.Answer(), answer)
		}
	}
}

func TestStepsAlone(t *testing.T) { // 6.3, and the words
	for _, x := range []struct {
		at, n  int64 // what is taken at first, of a bucket of 10, 3
		op     api.TokenOp
		steps  []api.Did
		answer api.Took
	}{
		{0, 0, take(0, 1), []api.Did{loads(0), puts(0, 10)}, given},
		{0, 0, take(7, 3), []api.Did{loads(0), puts(0, 37)}, given},
		{0, 0, take(7, 4), []api.Did{loads(0)}, wait(-1)},
		{5, 2, take(7, 1), []api.Did{loads(25), puts(25, 35)}, given},
		{5, 2, take(4, 1), []api.Did{loads(25)}, wait(1)},
		{5, 2, take(7, 2), []api.Did{loads(25)}, wait(8)},
		{5, 2, take(15, 2), []api.Did{loads(25), puts(25, 45)}, given},
		{5, 2, take(30, 2), []api.Did{loads(25), puts(25, 50)}, given},
		{5, 2, take(0, api.MaxBurst), []api.Did{loads(25)}, wait(-1)},
		{0, 0, peek(0), []api.Did{loads(0)}, api.Took{Left: 3}},
		{5, 2, peek(5), []api.Did{loads(25)}, api.Took{Left: 1}},
		{5, 2, peek(4), []api.Did{loads(25)}, api.Took{}},
		{5, 2, peek(0), []api.Did{loads(25)}, api.Took{}},
		{5, 2, peek(15), []api.Did{loads(25)}, api.Took{Left: 2}},
		{5, 2, peek(api.MaxAt), []api.Did{loads(25)}, api.Took{Left: 3}},
	} {
		b := made(t, 10, 3)
		if x.n > 0 {
			b.Take(x.at, x.n)
		}
		steps(t, begin(t, b, x.op), x.steps, func() {}, x.answer)
		if last := x.steps[len(x.steps)-1]; b.Word() != last.Put {
			t.Errorf("%v: the word is %d", x.op, b.Word())
		}
		if t.Failed() {
			t.Fatalf("behind Take(%d, %d): %v", x.at, x.n, x.op)
		}
	}
}

func TestExampleOfTwo(t *testing.T) { // example 2
	b := made(t, 10, 1)
	one, two := begin(t, b, take(0, 1)), begin(t, b, take(0, 1))
	if d, ended := one.Step(); d != loads(0) || ended {
		t.Error("the first load:", d, ended)
	}
	steps(t, two, []api.Did{loads(0), fails(10), loads(10)}, func() {
		if d, ended := one.Step(); d != puts(0, 10) || !ended || one.Answer() != given {
			t.Error("the first swap:", d, ended, one.Answer())
		}
	}, wait(10))
}

// Behind an ActCas that is not done all is looked at anew: the tokens may be gone by now.
func TestCasNotDone(t *testing.T) { // 6.3, 6.8
	for _, x := range []struct {
		name   string
		meet   api.TokenOp // what comes between the load and the swap of a Take of 2 at 10
		steps  []api.Did
		answer api.Took
	}{
		{"a take that leaves enough", take(10, 1), []api.Did{loads(10), fails(20), loads(20), puts(20, 40)}, given},
		{"a take at a sooner moment", take(0, 1), []api.Did{loads(10), fails(20), loads(20), puts(20, 40)}, given},
		{"a take that leaves too few", take(10, 2), []api.Did{loads(10), fails(30), loads(30)}, wait(10)},
		{"a take at a later moment", take(11, 3), []api.Did{loads(10), fails(41), loads(41)}, wait(21)},
		{"a take that is refused", take(0, 3), []api.Did{loads(10), puts(10, 30)}, given},
		{"a take that is never given", take(10, 4), []api.Did{loads(10), puts(10, 30)}, given},
		{"one who looks", peek(10), []api.Did{loads(10), puts(10, 30)}, given},
	} {
		t.Run(x.name, func(t *testing.T) {
			b := made(t, 10, 3)
			takes(t, b, 0, 1, given, 10)
			other := begin(t, b, x.meet)
			steps(t, begin(t, b, take(10, 2)), x.steps, func() {
				for !other.Done() {
					other.Step()
				}
			}, x.answer)
		})
	}
}

// shadow is an operation on a word of its own, as the document tells its actions.
type shadow struct {
	op           api.TokenOp
	every, depth int64
	loaded, over bool
	saw          uint64
	answer       api.Took
}

func (s *shadow) step(word *uint64) api.Did {
	if !s.loaded {
		s.loaded, s.saw = true, *word
		s.look()
		return loads(s.saw)
	}
	if *word != s.saw {
		s.loaded = false
		return fails(*word)
	}
	*word = uint64(s.next())
	s.over, s.answer.Ok = true, true
	return puts(s.saw, *word)
}

func (s *shadow) next() int64 {
	return max(int64(s.saw), s.op.At) + s.op.N*s.every
}

func (s *shadow) look() {
	burst := s.depth / s.every
	switch {
	case s.op.Kind == api.TokenPeek:
		s.over, s.answer.Left = true, there(s.saw, s.every, burst, s.op.At)
	case s.op.N > burst:
		s.over, s.answer.Wait = true, -1
	case s.next() > s.op.At+s.depth:
		s.over, s.answer.Wait = true, s.next()-s.op.At-s.depth
	}
}

// gave is a Take that was done by its ActCas.
type gave struct{ at, n int64 }

// neverMore holds each run of Takes, as they were done one behind another, against Most.
func neverMore(t *testing.T, every, burst int64, l []gave) {
	t.Helper()
	for i := range l {
		from, to, sum := l[i].at, l[i].at, int64(0)
		for _, g := range l[i:] {
			from, to, sum = min(from, g.at), max(to, g.at), sum+g.n
			if most, why := tokens.Most(every, burst, from, to); sum > most || why != api.OK {
				t.Fatalf("every %d, burst %d: %d were given from %d to %d, of %d at most: %v", every, burst, sum, from, to, most, l)
			}
		}
	}
}

func TestAnySchedule(t *testing.T) { // 6.3, 6.7
	r := rand.New(rand.NewSource(2))
	all, failed := 0, 0
	for range 2000 {
		every, burst := 1+r.Int63n(15), 1+r.Int63n(5)
		b := made(t, every, burst)
		var word uint64
		var now int64
		var pending []*tokens.Pending
		var shadows []*shadow
		var done []gave
		for range 120 {
			if len(pending) == 0 || r.Intn(3) == 0 {
				now = max(0, now+r.Int63n(3*every)-every)
				op := take(now, 1+r.Int63n(burst+1))
				if r.Intn(6) == 0 {
					op = peek(now)
				}
				pending = append(pending, begin(t, b, op))
				shadows = append(shadows, &shadow{op: op, every: every, depth: burst * every})
			}
			n := max(0, len(pending)-1-r.Intn(4)) // the latest ones, so that they are in one another's way
			p, s := pending[n], shadows[n]
			if s.over {
				continue
			}
			want := s.step(&word)
			if got, ended := p.Step(); got != want || ended != s.over || p.Done() != s.over || p.Answer() != s.answer || b.Word() != word {
				t.Fatalf("%v: %v, %v, %v, word %d, want %v, %v, %v, word %d", s.op, got, ended, p.Answer(), b.Word(), want, s.over, s.answer, word)
			}
			switch {
			case s.answer.Ok:
				all++
				done = append(done, gave{s.op.At, s.op.N})
			case !want.Ok:
				failed++
			}
		}
		neverMore(t, every, burst, done)
	}
	if all == 0 || failed == 0 {
		t.Error("something never came:", all, failed)
	}
}

// course is what operations on a new bucket did by a schedule.
type course struct {
	bucket  *tokens.Bucket
	pending []*tokens.Pending
	trace   []api.Event
}

func follow(t *testing.T, every, burst int64, ops []api.TokenOp, schedule []int) course {
	c := course{bucket: made(t, every, burst)}
	for _, op := range ops {
		c.pending = append(c.pending, begin(t, c.bucket, op))
	}
	for _, n := range schedule {
		d, _ := c.pending[n].Step()
		c.trace = append(c.trace, api.Event{Worker: n, Did: d})
	}
	return c
}

// every goes through all schedules by which the operations end, and looks at each course, under way too.
func every(t *testing.T, each, burst int64, ops []api.TokenOp, schedule []int, look func(c course, still bool)) {
	c := follow(t, each, burst, ops, schedule)
	var left []int
	for n, p := range c.pending {
		if !p.Done() {
			left = append(left, n)
		}
	}
	look(c, len(left) == 0)
	for _, n := range left {
		every(t, each, burst, ops, append(slices.Clip(schedule), n), look)
	}
}

func TestNeverMore(t *testing.T) { // 6.7
	for _, ops := range [][]api.TokenOp{
		{take(0, 1), take(0, 1), take(0, 1)},
		{take(0, 2), take(10, 2), take(25, 1)},
		{take(30, 2), take(0, 1), take(15, 2)},
		{take(5, 1), take(40, 2), take(39, 2)},
	} {
		for _, burst := range []int64{1, 2, 3} {
			counts := map[int]bool{}
			every(t, 10, burst, ops, nil, func(c course, still bool) {
				if !still {
					return
				}
				var done []gave
				for _, e := range c.trace {
					if e.Did.Kind == api.ActCas && e.Did.Ok {
						done = append(done, gave{ops[e.Worker].At, ops[e.Worker].N})
					}
				}
				counts[len(done)] = true
				neverMore(t, 10, burst, done)
			})
			if counts[0] && burst > 1 {
				t.Errorf("of %v by a burst of %d a schedule gives nobody anything", ops, burst)
			}
		}
	}
}

// Who asks for one token each is given just the burst, whatever the schedule.
func TestJustTheBurstByAnySchedule(t *testing.T) { // 6.7, 6.10
	for _, burst := range []int64{1, 2, 3, 4} {
		every(t, 10, burst, []api.TokenOp{take(7, 1), take(7, 1), take(7, 1)}, nil, func(c course, still bool) {
			if !still {
				return
			}
			var sum int64
			for _, p := range c.pending {
				switch p.Answer() {
				case given:
					sum++
				case wait(10):
				default:
					t.Fatal("answers", p.Answer(), "by", c.trace)
				}
			}
			if sum != min(burst, 3) || c.bucket.Word() != uint64(7+10*sum) {
				t.Fatalf("of a burst of %d %d were given, word %d, by %v", burst, sum, c.bucket.Word(), c.trace)
			}
		})
	}
}

func TestSomebodyGoesOn(t *testing.T) { // 6.8
	failed := 0
	every(t, 10, 3, []api.TokenOp{take(0, 1), take(5, 2), take(3, 1)}, nil, func(c course, still bool) {
		last := len(c.trace) - 1
		if last < 0 || c.trace[last].Did.Ok {
			return
		}
		failed++
		for i := last - 1; c.trace[i].Worker != c.trace[last].Worker; i-- {
			if d := c.trace[i].Did; d.Kind == api.ActCas && d.Ok {
				return
			}
		}
		t.Fatal("a swap was not done, and no other one was:", c.trace)
	})
	if failed == 0 {
		t.Error("no swap failed")
	}
}

func TestStepsByMany(t *testing.T) { // 6.3, 6.7
	const workers, each, burst = 8, 500, 1000
	b := made(t, 10, burst)
	counts := make([]int, workers)
	var all sync.WaitGroup
	for worker := range workers {
		all.Go(func() {
			for range each {
				p, why := b.Start(take(0, 1))
				for ended := why != api.OK; !ended; {
					_, ended = p.Step()
				}
				if p.Answer().Ok {
					counts[worker]++
				}
			}
		})
	}
	all.Wait()
	sum := 0
	for _, n := range counts {
		sum += n
	}
	if sum != burst || b.Word() != 10*burst {
		t.Error("given:", sum, "word:", b.Word())
	}
}
