package once_test

import (
	"math"
	"math/rand"
	"runtime"
	"slices"
	"sync"
	"testing"

	"abacus/api"
	"abacus/once"
)

func begin(t *testing.T, c *once.Cell, op api.OnceOp) *once.Pending {
	t.Helper()
	p, why := c.Start(op)
	if p == nil || why != api.OK {
		t.Fatalf("Start(%v): error %d", op, why)
	}
	return p
}

func loads(cell int, saw uint64) api.Did {
	return api.Did{Kind: api.ActLoad, Cell: cell, Saw: saw, Put: saw, Ok: true}
}

func stores(cell int, saw, put uint64) api.Did {
	return api.Did{Kind: api.ActStore, Cell: cell, Saw: saw, Put: put, Ok: true}
}

// swaps is what an ActCas of the state did, that saw something: it puts 1, or nothing.
func swaps(saw uint64, ok bool) api.Did {
	d := api.Did{Kind: api.ActCas, Saw: saw, Put: saw, Ok: ok}
	if ok {
		d.Put = 1
	}
	return d
}

// answers holds what an operation answers against what is wanted.
func answers(t *testing.T, p *once.Pending, x uint64, own bool, err api.Errno) {
	t.Helper()
	if got, by, why := p.Answer(); got != x || by != own || why != err {
		t.Errorf("Answer: %d, %v, error %d, want %d, %v, error %d", got, by, why, x, own, err)
	}
}

// goesOn holds the next steps of an operation against what is wanted; none of them is to end it.
func goesOn(t *testing.T, p *once.Pending, want ...api.Did) {
	t.Helper()
	for i, d := range want {
		if got, ended := p.Step(); got != d || ended || p.Done() {
			t.Errorf("step %d: %v, %v, %v, want %v", i, got, ended, p.Done(), d)
		}
		answers(t, p, 0, false, api.OK)
	}
}

// ends holds the last step of an operation, and what it answers, against what is wanted.
func ends(t *testing.T, p *once.Pending, d api.Did, x uint64, own bool, err api.Errno) {
	t.Helper()
	if got, ended := p.Step(); got != d || !ended {
		t.Errorf("the last step: %v, %v, want %v", got, ended, d)
	}
	for range 2 {
		answers(t, p, x, own, err)
		if got, ended := p.Step(); got != (api.Did{}) || !ended || !p.Done() {
			t.Errorf("at its end: %v, %v, %v", got, ended, p.Done())
		}
	}
}

func TestStart(t *testing.T) { // 13.1
	c := once.New()
	for _, op := range []api.OnceOp{
		{}, {X: 1}, {Kind: api.OnceCount}, {Kind: api.OnceCount, X: 1}, {Kind: 255},
		{Kind: api.OnceFail, X: 1}, {Kind: api.OnceFail, X: math.MaxUint64}, {Kind: api.OncePeek, X: 1}, {Kind: api.OncePeek, X: 1 << 63},
	} {
		if p, why := c.Start(op); p != nil || why != api.ErrAct {
			t.Errorf("Start(%v): error %d", op, why)
		}
	}
	for _, op := range []api.OnceOp{{Kind: api.OnceMake}, {Kind: api.OnceMake, X: math.MaxUint64}, {Kind: api.OnceFail}, {Kind: api.OncePeek}} {
		p := begin(t, c, op)
		answers(t, p, 0, false, api.OK)
		if p.Done() {
			t.Errorf("%v, of which nothing is done yet, has ended", op)
		}
	}
	ends(t, begin(t, c, api.OnceOp{Kind: api.OncePeek}), loads(0, 0), 0, false, api.ErrNone) // nothing was done
}

func TestStepsAlone(t *testing.T) { // 13.1, and example 2
	for _, x := range []uint64{7, 0, math.MaxUint64} {
		c := once.New()
		p := begin(t, c, api.OnceOp{Kind: api.OnceFail})
		goesOn(t, p, loads(0, 0), swaps(0, true))
		ends(t, p, stores(0, 1, 0), 0, false, api.ErrMake)
		ends(t, begin(t, c, api.OnceOp{Kind: api.OncePeek}), loads(0, 0), 0, false, api.ErrNone)

		p = begin(t, c, api.OnceOp{Kind: api.OnceMake, X: x})
		goesOn(t, p, loads(0, 0), swaps(0, true), stores(1, 0, x))
		ends(t, begin(t, c, api.OnceOp{Kind: api.OncePeek}), loads(0, 1), 0, false, api.ErrNone)
		ends(t, p, stores(0, 1, 2), x, true, api.OK)

		for _, op := range []api.OnceOp{{Kind: api.OncePeek}, {Kind: api.OnceFail}, {Kind: api.OnceMake, X: 5}, {Kind: api.OnceMake, X: x}} {
			p = begin(t, c, op)
			goesOn(t, p, loads(0, 2))
			ends(t, p, loads(1, x), x, false, api.OK)
		}
	}
}

func TestExampleOfTurns(t *testing.T) { // example 1
	c := once.New()
	a, b := begin(t, c, api.OnceOp{Kind: api.OnceMake, X: 5}), begin(t, c, api.OnceOp{Kind: api.OnceMake, X: 7})
	goesOn(t, a, loads(0, 0))
	goesOn(t, b, loads(0, 0))
	goesOn(t, a, swaps(0, true))
	goesOn(t, b, swaps(1, false))
	goesOn(t, a, stores(1, 0, 5))
	goesOn(t, b, loads(0, 1))
	ends(t, a, stores(0, 1, 2), 5, true, api.OK)
	goesOn(t, b, loads(0, 2))
	ends(t, b, loads(1, 5), 5, false, api.OK)
}

// One that waits looks again and again, and tries when the one ahead of it has failed; it may fail to begin more than once.
func TestWaits(t *testing.T) { // 13.1, 13.7
	c := once.New()
	a, b, other := begin(t, c, api.OnceOp{Kind: api.OnceFail}), begin(t, c, api.OnceOp{Kind: api.OnceMake, X: 7}), begin(t, c, api.OnceOp{Kind: api.OnceFail})
	goesOn(t, a, loads(0, 0), swaps(0, true))
	goesOn(t, b, loads(0, 1), loads(0, 1), loads(0, 1))
	goesOn(t, other, loads(0, 1))
	ends(t, a, stores(0, 1, 0), 0, false, api.ErrMake)
	goesOn(t, b, loads(0, 0))
	goesOn(t, other, loads(0, 0), swaps(0, true))
	goesOn(t, b, swaps(1, false), loads(0, 1))
	ends(t, other, stores(0, 1, 0), 0, false, api.ErrMake)
	goesOn(t, b, loads(0, 0), swaps(0, true), stores(1, 0, 7))
	ends(t, b, stores(0, 1, 2), 7, true, api.OK)
}

// Between its load and its swap all may come to what it was: then the swap is done.
func TestSwapLooksAtTheStateAlone(t *testing.T) { // 13.1
	c := once.New()
	p := begin(t, c, api.OnceOp{Kind: api.OnceMake, X: 7})
	goesOn(t, p, loads(0, 0))
	gets(t, c, fails, 0, false, api.ErrMake)
	goesOn(t, p, swaps(0, true), stores(1, 0, 7))
	ends(t, p, stores(0, 1, 2), 7, true, api.OK)
}

// shadow is an operation on words of its own, as the document tells its actions.
type shadow struct {
	op    api.OnceOp
	place string // what comes next, if it is not the first load
	over  bool
	x     uint64
	own   bool
	why   api.Errno
}

func (s *shadow) end(x uint64, own bool, why api.Errno) {
	s.over, s.x, s.own, s.why = true, x, own, why
}

func (s *shadow) step(words *[2]uint64) api.Did {
	switch s.place {
	case "value":
		s.end(words[1], false, api.OK)
		return loads(1, words[1])
	case "begin":
		if words[0] != 0 {
			s.place = ""
			return swaps(words[0], false)
		}
		words[0], s.place = 1, "give up"
		if s.op.Kind == api.OnceMake {
			s.place = "put"
		}
		return swaps(0, true)
	case "put":
		d := stores(1, words[1], s.op.X)
		words[1], s.place = s.op.X, "tell"
		return d
	case "tell":
		d := stores(0, words[0], 2)
		words[0] = 2
		s.end(s.op.X, true, api.OK)
		return d
	case "give up":
		d := stores(0, words[0], 0)
		words[0] = 0
		s.end(0, false, api.ErrMake)
		return d
	}
	switch {
	case words[0] == 2:
		s.place = "value"
	case s.op.Kind == api.OncePeek:
		s.end(0, false, api.ErrNone)
	case words[0] == 0:
		s.place = "begin"
	}
	return loads(0, words[0])
}

// course is operations on a thing, and what they did by a schedule.
type course struct {
	t       *testing.T
	cell    *once.Cell
	ops     []api.OnceOp
	pending []*once.Pending
	shadows []*shadow
	last    []api.Did
	words   [2]uint64
	told    bool // the thing is made: its state was put
	makers  int
	count   map[string]int
}

func newCourse(t *testing.T, ops []api.OnceOp, count map[string]int) *course {
	c := &course{t: t, cell: once.New(), ops: ops, last: make([]api.Did, len(ops)), count: count}
	for _, op := range ops {
		c.pending = append(c.pending, begin(t, c.cell, op))
		c.shadows = append(c.shadows, &shadow{op: op})
	}
	return c
}

// left are the operations that have not ended, and do not just look once more at what they saw.
func (c *course) left() []int {
	var l []int
	for n, s := range c.shadows {
		waits := c.last[n] == loads(0, 1) && c.words[0] == 1
		if !s.over && !waits {
			l = append(l, n)
		}
	}
	return l
}

// step does an operation's next action, and holds it against the words and what follows from them.
func (c *course) step(n int) {
	p, s := c.pending[n], c.shadows[n]
	want := s.step(&c.words)
	got, ended := p.Step()
	x, own, why := p.Answer()
	if got != want || ended != s.over || p.Done() != ended || x != s.x || own != s.own || why != s.why {
		c.t.Fatalf("%v: %v, %v, %d, %v, error %d; want %v", s.op, got, ended, x, own, why, want)
	}
	c.last[n] = got
	c.told = c.told || got.Kind == api.ActStore && got.Cell == 0 && got.Put == 2
	if !got.Ok {
		c.count["not done"]++
	}
	if ended {
		c.ended(x, own, why)
	}
}

func (c *course) ended(x uint64, own bool, why api.Errno) { // 13.7
	if own {
		c.makers++
	}
	switch {
	case why != api.OK:
		c.count["failed"]++
	case !c.told || c.makers != 1:
		c.t.Fatalf("%d is told ahead of its being made, or made by %d", x, c.makers)
	case x != c.words[1]:
		c.t.Fatalf("%d is told, of %d", x, c.words[1])
	}
}

func (c *course) end() { // 13.7
	makes := false
	for n, s := range c.shadows {
		if !s.over {
			c.t.Fatalf("%v waits for ever", c.ops[n])
		}
		makes = makes || s.op.Kind == api.OnceMake
	}
	x, why := c.cell.Peek()
	if makes && (why != api.OK || x != c.words[1] || c.makers != 1) || !makes && (why != api.ErrNone || c.words != [2]uint64{}) {
		c.t.Fatalf("at the end: %d, error %d, made by %d", x, why, c.makers)
	}
	c.count["schedules"]++
}

// every goes through all schedules by which the operations end, but for looks that see what was seen ahead of them.
func every(t *testing.T, ops []api.OnceOp, schedule []int, count map[string]int) {
	c := newCourse(t, ops, count)
	for _, n := range schedule {
		c.step(n)
	}
	left := c.left()
	if len(left) == 0 {
		c.end()
	}
	for _, n := range left {
		every(t, ops, append(slices.Clip(schedule), n), count)
	}
}

func TestEverySchedule(t *testing.T) { // 13.7
	five, seven, fail, peek := api.OnceOp{Kind: api.OnceMake, X: 5}, api.OnceOp{Kind: api.OnceMake, X: 7}, api.OnceOp{Kind: api.OnceFail}, api.OnceOp{Kind: api.OncePeek}
	for _, x := range []struct {
		name  string
		ops   []api.OnceOp
		wants []string
	}{
		{"two make", []api.OnceOp{five, seven}, []string{"not done"}},
		{"two make, one looks", []api.OnceOp{five, seven, peek}, []string{"not done", "failed"}},
		{"three make", []api.OnceOp{five, seven, {Kind: api.OnceMake, X: math.MaxUint64}}, []string{"not done"}},
		{"one fails, one makes", []api.OnceOp{fail, seven}, []string{"not done", "failed"}},
		{"one fails, one makes, one looks", []api.OnceOp{fail, seven, peek}, []string{"not done", "failed"}},
		{"two fail, one makes", []api.OnceOp{fail, fail, seven}, []string{"not done", "failed"}},
		{"two fail, one looks", []api.OnceOp{fail, fail, peek}, []string{"not done", "failed"}},
	} {
		t.Run(x.name, func(t *testing.T) {
			count := map[string]int{}
			every(t, x.ops, nil, count)
			for _, what := range append(x.wants, "schedules") {
				if count[what] == 0 {
					t.Error("never came:", what)
				}
			}
		})
	}
}

func TestAnySchedule(t *testing.T) { // 13.1, 13.7
	r := rand.New(rand.NewSource(13))
	count := map[string]int{}
	for range 5000 {
		ops := make([]api.OnceOp, 1+r.Intn(8))
		for n := range ops {
			switch kind := api.OnceKind(1 + r.Intn(3)); kind {
			case api.OnceMake:
				ops[n] = api.OnceOp{Kind: kind, X: r.Uint64() >> r.Intn(64)}
			default:
				ops[n].Kind = kind
			}
		}
		c := newCourse(t, ops, count)
		for left := c.left(); len(left) > 0; left = c.left() {
			n := left[r.Intn(len(left))]
			if other := r.Intn(len(ops)); !c.shadows[other].over { // one who waits may look as often as it likes
				n = other
			}
			c.step(n)
		}
		c.end()
	}
	for _, what := range []string{"not done", "failed"} {
		if count[what] == 0 {
			t.Error("never came:", what)
		}
	}
}

func TestStepsByMany(t *testing.T) { // 13.1, 13.7
	const workers = 16
	for range 100 {
		c := once.New()
		own, told := make([]bool, workers), make([]uint64, workers)
		var all sync.WaitGroup
		for n := range workers {
			op := api.OnceOp{Kind: api.OnceMake, X: uint64(n)}
			if n%4 == 3 {
				op = api.OnceOp{Kind: api.OnceFail}
			}
			all.Go(func() {
				p, _ := c.Start(op)
				for ended := false; !ended; {
					if _, ended = p.Step(); !ended {
						runtime.Gosched()
					}
				}
				x, by, why := p.Answer()
				own[n], told[n] = by, x
				if why != api.OK && (why != api.ErrMake || op.Kind != api.OnceFail) {
					t.Errorf("%v ends with the error %d", op, why)
				}
				if why == api.ErrMake {
					told[n] = math.MaxUint64 // nothing
				}
			})
		}
		all.Wait()
		made := slices.Index(own, true)
		if made < 0 || made%4 == 3 || slices.Contains(own[made+1:], true) {
			t.Fatal("made by:", own)
		}
		for n, x := range told {
			if x != uint64(made) && (n%4 != 3 || x != math.MaxUint64) {
				t.Fatalf("made by %d, told %d", made, x)
			}
		}
		peeks(t, c, uint64(made), api.OK)
	}
}
