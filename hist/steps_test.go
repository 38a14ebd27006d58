package hist_test

import (
	"fmt"
	"math"
	"math/rand"
	"slices"
	"testing"

	"abacus/api"
	"abacus/hist"
	"abacus/scale"
)

func begin(t *testing.T, h *hist.Hist, op api.HistOp) *hist.Pending {
	t.Helper()
	p, why := h.Start(op)
	if p == nil || why != api.OK {
		t.Fatalf("Start(%v): error %d", op, why)
	}
	return p
}

func recording(v int64, n uint64) api.HistOp {
	return api.HistOp{Kind: api.HistRecord, V: v, N: n}
}

func showing() api.HistOp {
	return api.HistOp{Kind: api.HistShow}
}

func TestStart(t *testing.T) { // 10.3
	h := made(t, example)
	records(t, h, 9, 2)
	before := h.All()
	for _, op := range []api.HistOp{
		{}, {V: 1, N: 1}, {Kind: api.HistCount}, {Kind: api.HistCount, V: 1, N: 1}, {Kind: 255, V: 1, N: 1},
		recording(1, 0), recording(-1, 1), recording(math.MinInt64, 1), recording(1001, 1), recording(1023, 1), recording(math.MaxInt64, 1),
		{Kind: api.HistShow, V: 1}, {Kind: api.HistShow, N: 1}, {Kind: api.HistShow, V: -1}, {Kind: api.HistShow, V: 1, N: 1},
	} {
		if p, why := h.Start(op); p != nil || why != api.ErrRange {
			t.Errorf("Start(%v): error %d", op, why)
		}
	}
	for _, op := range []api.HistOp{recording(0, 1), recording(1000, 1), recording(1, math.MaxUint64), showing()} {
		if p := begin(t, h, op); p.Done() || !isZero(p.Answer()) {
			t.Errorf("%v, of which nothing is done yet: %v, %v", op, p.Done(), p.Answer())
		}
	}
	if got := h.All(); !slices.Equal(got, before) {
		t.Error("Start does something:", got)
	}
}

func loads(cell int, saw uint64) api.Did {
	return api.Did{Kind: api.ActLoad, Cell: cell, Saw: saw, Put: saw, Ok: true}
}

func adds(cell int, saw, by uint64) api.Did {
	return api.Did{Kind: api.ActAdd, Cell: cell, Saw: saw, Put: saw + by, Ok: true}
}

func puts(cell int, saw, put uint64) api.Did {
	return api.Did{Kind: api.ActCas, Cell: cell, Saw: saw, Put: put, Ok: true}
}

func fails(cell int, saw uint64) api.Did {
	return api.Did{Kind: api.ActCas, Cell: cell, Saw: saw, Put: saw}
}

// goesOn holds the next steps of an operation against what is wanted; none of them is to end it.
func goesOn(t *testing.T, p *hist.Pending, want ...api.Did) {
	t.Helper()
	for i, d := range want {
		if got, ended := p.Step(); got != d || ended || p.Done() || !isZero(p.Answer()) {
			t.Errorf("step %d: %v, %v, want %v", i, got, ended, d)
		}
	}
}

// ends holds the last step of an operation, and its answer, against what is wanted.
func ends(t *testing.T, p *hist.Pending, d api.Did, want api.Shot) {
	t.Helper()
	if got, ended := p.Step(); got != d || !ended {
		t.Errorf("the last step: %v, %v, want %v", got, ended, d)
	}
	for range 2 {
		if got := p.Answer(); !alike(got, want) {
			t.Errorf("Answer: %v, want %v", got, want)
		}
		if got, ended := p.Step(); got != (api.Did{}) || !ended || !p.Done() {
			t.Errorf("at its end: %v, %v, %v", got, ended, p.Done())
		}
	}
}

func TestExampleOfSteps(t *testing.T) { // 10.3, example 2
	h := made(t, example)
	p := begin(t, h, recording(5, 1))
	goesOn(t, p, adds(5, 0, 1), adds(112, 0, 5), loads(113, math.MaxUint64), puts(113, math.MaxUint64, 5), loads(114, 0), puts(114, 0, 6))
	ends(t, p, adds(115, 0, 1), api.Shot{})

	p = begin(t, h, recording(7, 1))
	goesOn(t, p, adds(7, 0, 1), adds(112, 5, 7), loads(113, 5), loads(114, 6), puts(114, 6, 8))
	ends(t, p, adds(115, 1, 1), api.Shot{})

	p = begin(t, h, recording(5, 10)) // the least one again
	goesOn(t, p, adds(5, 1, 10), adds(112, 12, 50), loads(113, 5), loads(114, 8))
	ends(t, p, adds(115, 2, 10), api.Shot{})

	p = begin(t, h, recording(7, 1)) // the greatest one again
	goesOn(t, p, adds(7, 1, 1), adds(112, 62, 7), loads(113, 5), loads(114, 8))
	ends(t, p, adds(115, 12, 1), api.Shot{})

	p = begin(t, h, recording(0, 1))
	goesOn(t, p, adds(0, 0, 1), adds(112, 69, 0), loads(113, 5), puts(113, 5, 0), loads(114, 8))
	ends(t, p, adds(115, 13, 1), api.Shot{})

	p = begin(t, h, showing())
	goesOn(t, p, loads(115, 14), loads(113, 0), loads(114, 8), loads(112, 69))
	want := shot(example, record{5, 11}, record{7, 2}, record{0, 1})
	for i := range 111 {
		goesOn(t, p, loads(i, want.Buckets[i]))
	}
	ends(t, p, loads(111, 0), want)
}

func TestStepsOfNone(t *testing.T) { // 10.3
	h := made(t, api.Scale{Lowest: 1, Highest: 2, Digits: 1})
	p := begin(t, h, showing())
	goesOn(t, p, loads(6, 0), loads(4, math.MaxUint64), loads(5, 0), loads(3, 0), loads(0, 0), loads(1, 0))
	ends(t, p, loads(2, 0), api.Shot{Least: -1, Greatest: -1, Buckets: make([]uint64, 3)})

	p = begin(t, h, recording(0, 1))
	goesOn(t, p, adds(0, 0, 1), adds(3, 0, 0), loads(4, math.MaxUint64), puts(4, math.MaxUint64, 0), loads(5, 0), puts(5, 0, 1))
	ends(t, p, adds(6, 0, 1), api.Shot{})
}

// Behind an ActCas that is not done the cell is looked at anew: by then it may be as good, or better.
func TestCasNotDone(t *testing.T) { // 10.3
	h := made(t, example)
	p := begin(t, h, recording(5, 1))
	goesOn(t, p, adds(5, 0, 1), adds(112, 0, 5), loads(113, math.MaxUint64))
	records(t, h, 9, 1)
	goesOn(t, p, fails(113, 9), loads(113, 9))
	records(t, h, 8, 1)
	goesOn(t, p, fails(113, 8), loads(113, 8), puts(113, 8, 5), loads(114, 10))
	ends(t, p, adds(115, 2, 1), api.Shot{})

	p = begin(t, h, recording(3, 1))
	goesOn(t, p, adds(3, 0, 1), adds(112, 22, 3), loads(113, 5))
	records(t, h, 2, 1)
	goesOn(t, p, fails(113, 2), loads(113, 2), loads(114, 10))
	ends(t, p, adds(115, 4, 1), api.Shot{})

	p = begin(t, h, recording(20, 1))
	goesOn(t, p, adds(20, 0, 1), adds(112, 27, 20), loads(113, 2), loads(114, 10))
	records(t, h, 15, 1)
	goesOn(t, p, fails(114, 16), loads(114, 16))
	records(t, h, 20, 1)
	goesOn(t, p, fails(114, 21), loads(114, 21))
	ends(t, p, adds(115, 7, 1), api.Shot{})

	p = begin(t, h, recording(30, 1))
	goesOn(t, p, adds(30, 0, 1), adds(112, 82, 30), loads(113, 2), loads(114, 21))
	records(t, h, 25, 1)
	goesOn(t, p, fails(114, 26), loads(114, 26), puts(114, 26, 31))
	ends(t, p, adds(115, 9, 1), api.Shot{})
	shows(t, h, shot(example, record{5, 1}, record{9, 1}, record{8, 1}, record{3, 1}, record{2, 1}, record{20, 2}, record{15, 1}, record{30, 1}, record{25, 1}))
}

// shadow is an operation on words of its own, as the document tells its actions.
type shadow struct {
	op    api.HistOp
	n     int // buckets
	s     api.Scale
	place int // of the actions told by the document, those that were done: a load and its swap are one place each
	saw   uint64
	shot  api.Shot
	over  bool
}

func (x *shadow) step(words []uint64) api.Did {
	if x.op.Kind == api.HistShow {
		return x.look(words)
	}
	v := uint64(x.op.V)
	switch x.place {
	case 0:
		i, _ := scale.Index(x.s, x.op.V)
		return x.add(words, i, x.op.N)
	case 1:
		return x.add(words, x.n, v*x.op.N)
	case 2, 3:
		return x.best(words, 2, x.n+1, v, func(w uint64) bool { return v < w })
	case 4, 5:
		return x.best(words, 4, x.n+2, v+1, func(w uint64) bool { return v+1 > w })
	}
	x.over = true
	return x.add(words, x.n+3, x.op.N)
}

func (x *shadow) add(words []uint64, cell int, by uint64) api.Did {
	x.place++
	words[cell] += by
	return adds(cell, words[cell]-by, by)
}

func (x *shadow) best(words []uint64, first, cell int, word uint64, better func(uint64) bool) api.Did {
	if x.place == first {
		x.saw = words[cell]
		x.place++
		if !better(x.saw) {
			x.place++
		}
		return loads(cell, x.saw)
	}
	if words[cell] != x.saw {
		x.place = first
		return fails(cell, words[cell])
	}
	x.place++
	words[cell] = word
	return puts(cell, x.saw, word)
}

func (x *shadow) look(words []uint64) api.Did {
	cell := x.place - 4
	if x.place < 4 {
		cell = x.n + []int{3, 1, 2, 0}[x.place]
	}
	w := words[cell]
	switch x.place {
	case 0:
		x.shot.Count = w
	case 1:
		x.shot.Least = -1
		if w != math.MaxUint64 {
			x.shot.Least = int64(w)
		}
	case 2:
		x.shot.Greatest = int64(w) - 1
	case 3:
		x.shot.Sum = w
	default:
		x.shot.Buckets = append(x.shot.Buckets, w)
	}
	x.place++
	x.over = x.place == x.n+4
	return loads(cell, w)
}

// worker does operations one behind another.
type worker struct {
	todo []api.HistOp
	p    *hist.Pending
	s    *shadow
	must []record // what had been recorded when its HistShow did its first action
}

// hall is workers of a histogram, by a schedule.
type hall struct {
	t       *testing.T
	h       *hist.Hist
	s       api.Scale
	n       int
	words   []uint64
	workers []*worker
	ended   []record // what was recorded by operations that have ended
	shots   []api.Shot
	count   map[string]int
}

func newHall(t *testing.T, s api.Scale, todo [][]api.HistOp, count map[string]int) *hall {
	n, _ := scale.Count(s)
	x := &hall{t: t, h: made(t, s), s: s, n: n, words: make([]uint64, n+4), count: count}
	x.words[n+1] = math.MaxUint64
	for _, l := range todo {
		x.workers = append(x.workers, &worker{todo: l})
	}
	return x
}

func (x *hall) left() []int {
	var l []int
	for n, w := range x.workers {
		if w.p != nil || len(w.todo) > 0 {
			l = append(l, n)
		}
	}
	return l
}

// step does a worker's next action, and holds it against the words.
func (x *hall) step(n int) {
	w := x.workers[n]
	if w.p == nil {
		op := w.todo[0]
		w.todo = w.todo[1:]
		w.p, w.s, w.must = begin(x.t, x.h, op), &shadow{op: op, n: x.n, s: x.s}, slices.Clone(x.ended)
	}
	want := w.s.step(x.words)
	got, ended := w.p.Step()
	if got != want || ended != w.s.over || w.p.Done() != ended {
		x.t.Fatalf("%v: %v, %v, want %v, %v", w.s.op, got, ended, want, w.s.over)
	}
	if !want.Ok {
		x.count["failed"]++
	}
	if !ended {
		return
	}
	if w.s.op.Kind == api.HistRecord {
		x.ended = append(x.ended, record{w.s.op.V, w.s.op.N})
	} else {
		x.saw(w, w.p.Answer())
	}
	w.p = nil
}

// saw holds a snapshot that was taken while others recorded against what follows.
func (x *hall) saw(w *worker, got api.Shot) {
	if !alike(got, w.s.shot) {
		x.t.Fatalf("a snapshot: %v, want %v", got, w.s.shot)
	}
	if got.Count > sum(got.Buckets) { // 10.8
		x.t.Fatalf("more counted than there: %v", got)
	}
	if got.Count < sum(got.Buckets) {
		x.count["less counted"]++
	}
	must := shot(x.s, w.must...)
	if what := falls(must, got); what != "" { // 10.8
		x.t.Fatalf("%s, from what had been recorded: %v, then %v", what, must, got)
	}
	x.shots = append(x.shots, got)
}

func (x *hall) end() { // 10.7
	want := shot(x.s, x.ended...)
	got := x.h.Show()
	if !alike(got, want) || !slices.Equal(x.h.All(), x.words) {
		x.t.Fatalf("still: %v, want %v", got, want)
	}
	if why := hist.Check(x.s, got); why != api.OK {
		x.t.Fatalf("Check of %v: error %d", got, why)
	}
	x.count["schedules"]++
}

// every goes through all schedules by which the workers' operations end.
func every(t *testing.T, s api.Scale, todo [][]api.HistOp, schedule []int, count map[string]int) {
	x := newHall(t, s, todo, count)
	for _, n := range schedule {
		x.step(n)
	}
	left := x.left()
	if len(left) == 0 {
		x.end()
	}
	for _, n := range left {
		every(t, s, todo, append(slices.Clip(schedule), n), count)
	}
}

func TestEverySchedule(t *testing.T) { // 10.3, 10.7, 10.8
	s := api.Scale{Lowest: 1, Highest: 2, Digits: 1}
	for _, x := range []struct {
		todo  [][]api.HistOp
		wants []string
	}{
		{[][]api.HistOp{{recording(1, 1)}, {recording(2, 1)}}, []string{"failed"}},
		{[][]api.HistOp{{recording(1, 3)}, {recording(1, 1)}}, []string{"failed"}},
		{[][]api.HistOp{{recording(2, 5)}, {recording(0, 1)}}, []string{"failed"}},
		{[][]api.HistOp{{recording(2, 2)}, {showing()}}, []string{"less counted"}},
		{[][]api.HistOp{{recording(0, 1)}, {showing()}}, []string{"less counted"}},
	} {
		t.Run(fmt.Sprint(x.todo), func(t *testing.T) {
			count := map[string]int{}
			every(t, s, x.todo, nil, count)
			for _, what := range append(x.wants, "schedules") {
				if count[what] == 0 {
					t.Error("never came:", what)
				}
			}
		})
	}
}

func TestAnySchedule(t *testing.T) { // 10.3, 10.7 to 10.9
	r := rand.New(rand.NewSource(12))
	count := map[string]int{}
	for range 6000 {
		s := []api.Scale{{Lowest: 1, Highest: 2, Digits: 1}, {Lowest: 1, Highest: 7, Digits: 1}, {Lowest: 4, Highest: 200, Digits: 1}}[r.Intn(3)]
		todo := make([][]api.HistOp, 1+r.Intn(6))
		for n := range todo {
			for range 1 + r.Intn(5) {
				if r.Intn(3) == 0 {
					todo[n] = append(todo[n], showing())
				} else {
					todo[n] = append(todo[n], recording(r.Int63n(s.Highest+1), 1+uint64(r.Intn(3))))
				}
			}
		}
		x := newHall(t, s, todo, count)
		last := shot(s) // what plain calls between the steps saw
		for left := x.left(); len(left) > 0; left = x.left() {
			n := left[r.Intn(len(left))]
			for range 1 + r.Intn(3) {
				if x.workers[n].p != nil || len(x.workers[n].todo) > 0 {
					x.step(n)
				}
			}
			last = x.look(r, last)
		}
		x.end()
	}
	for _, what := range []string{"failed", "less counted", "not right"} {
		if count[what] == 0 {
			t.Error("never came:", what)
		}
	}
}

// look makes plain calls now and then, and holds what they see against what was seen ahead of them.
func (x *hall) look(r *rand.Rand, last api.Shot) api.Shot {
	switch r.Intn(12) {
	case 0:
		v := r.Int63n(x.s.Highest + 1)
		records(x.t, x.h, v, 2)
		x.ended = append(x.ended, record{v, 2})
		for s := (&shadow{op: recording(v, 2), n: x.n, s: x.s}); !s.over; {
			s.step(x.words)
		}
	case 1:
		got := x.h.Show()
		if what := falls(last, got); what != "" || got.Count > sum(got.Buckets) { // 10.8, 10.9
			x.t.Fatalf("%s: from %v to %v", what, last, got)
		}
		if hist.Check(x.s, got) != api.OK {
			x.count["not right"]++
		}
		return got
	}
	return last
}

// Two snapshots, one behind the other, each stepped while others record.
func TestRising(t *testing.T) { // 10.9
	r := rand.New(rand.NewSource(13))
	s := api.Scale{Lowest: 1, Highest: 7, Digits: 1}
	rose := 0
	for range 4000 {
		todo := [][]api.HistOp{{showing(), showing(), showing()}}
		for range 1 + r.Intn(4) {
			todo = append(todo, []api.HistOp{recording(r.Int63n(8), 1), recording(r.Int63n(8), 2)})
		}
		x := newHall(t, s, todo, map[string]int{})
		for left := x.left(); len(left) > 0; left = x.left() {
			x.step(left[r.Intn(len(left))])
		}
		for i, b := range x.shots[1:] {
			if what := falls(x.shots[i], b); what != "" {
				t.Fatalf("%s: from %v to %v", what, x.shots[i], b)
			}
			if !alike(x.shots[i], b) {
				rose++
			}
		}
		x.end()
	}
	if rose == 0 {
		t.Error("nothing ever rose")
	}
}
