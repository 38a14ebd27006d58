package gauges_test

import (
	"math"
	"math/rand"
	"slices"
	"sync"
	"testing"

	"abacus/api"
	"abacus/gauges"
)

func begin(t *testing.T, g *gauges.Gauge, op api.GaugeOp) *gauges.Pending {
	t.Helper()
	p, why := g.Start(op)
	if p == nil || why != api.OK {
		t.Fatalf("Start(%v): error %d", op, why)
	}
	return p
}

func TestStartRefuses(t *testing.T) { // 3.2
	g := has(5)
	for _, op := range []api.GaugeOp{
		{}, {Kind: api.GaugeNone, X: 1}, {Kind: api.GaugeCount}, {Kind: 255},
		{Kind: api.GaugeGet, X: 1}, {Kind: api.GaugeGet, X: math.SmallestNonzeroFloat64}, {Kind: api.GaugeGet, X: nan}, {Kind: api.GaugeGet, X: -inf},
	} {
		if p, why := g.Start(op); p != nil || why != api.ErrAct {
			t.Errorf("Start(%v): error %d", op, why)
		}
	}
	for _, op := range []api.GaugeOp{
		{Kind: api.GaugeGet}, {Kind: api.GaugeGet, X: minus}, {Kind: api.GaugeSet, X: nan}, {Kind: api.GaugeAdd, X: inf}, {Kind: api.GaugeMax, X: nan}, {Kind: api.GaugeMin, X: minus},
	} {
		p := begin(t, g, op)
		if p.Done() || !same(p.Answer(), 0) {
			t.Errorf("%v, of which nothing is done yet: %v, %v", op, p.Done(), p.Answer())
		}
	}
	if g.Get() != 5 {
		t.Error("Start does something:", g.Get())
	}
}

func did(kind api.ActKind, saw, put float64, ok bool) api.Did {
	return api.Did{Kind: kind, Saw: gauges.Bits(saw), Put: gauges.Bits(put), Ok: ok}
}

func TestStepsAlone(t *testing.T) { // 3.2, 3.8
	for _, x := range []struct {
		has    float64
		op     api.GaugeOp
		steps  []api.Did
		answer float64
	}{
		{3, api.GaugeOp{Kind: api.GaugeGet}, []api.Did{did(api.ActLoad, 3, 3, true)}, 3},
		{minus, api.GaugeOp{Kind: api.GaugeGet, X: minus}, []api.Did{did(api.ActLoad, minus, minus, true)}, minus},
		{3, api.GaugeOp{Kind: api.GaugeSet, X: 4}, []api.Did{did(api.ActStore, 3, 4, true)}, 4},
		{3, api.GaugeOp{Kind: api.GaugeSet, X: odd()[4]}, []api.Did{did(api.ActStore, 3, nan, true)}, nan},
		{3, api.GaugeOp{Kind: api.GaugeAdd, X: 4}, []api.Did{did(api.ActLoad, 3, 3, true), did(api.ActCas, 3, 7, true)}, 7},
		{3, api.GaugeOp{Kind: api.GaugeAdd}, []api.Did{did(api.ActLoad, 3, 3, true), did(api.ActCas, 3, 3, true)}, 3},
		{inf, api.GaugeOp{Kind: api.GaugeAdd, X: -inf}, []api.Did{did(api.ActLoad, inf, inf, true), did(api.ActCas, inf, nan, true)}, nan},
		{3, api.GaugeOp{Kind: api.GaugeMax, X: 4}, []api.Did{did(api.ActLoad, 3, 3, true), did(api.ActCas, 3, 4, true)}, 4},
		{3, api.GaugeOp{Kind: api.GaugeMax, X: 3}, []api.Did{did(api.ActLoad, 3, 3, true)}, 3},
		{3, api.GaugeOp{Kind: api.GaugeMax, X: nan}, []api.Did{did(api.ActLoad, 3, 3, true)}, 3},
		{nan, api.GaugeOp{Kind: api.GaugeMax, X: nan}, []api.Did{did(api.ActLoad, nan, nan, true)}, nan},
		{nan, api.GaugeOp{Kind: api.GaugeMax, X: -inf}, []api.Did{did(api.ActLoad, nan, nan, true), did(api.ActCas, nan, -inf, true)}, -inf},
		{minus, api.GaugeOp{Kind: api.GaugeMax}, []api.Did{did(api.ActLoad, minus, minus, true), did(api.ActCas, minus, 0, true)}, 0},
		{0, api.GaugeOp{Kind: api.GaugeMax, X: minus}, []api.Did{did(api.ActLoad, 0, 0, true)}, 0},
		{3, api.GaugeOp{Kind: api.GaugeMin, X: 2}, []api.Did{did(api.ActLoad, 3, 3, true), did(api.ActCas, 3, 2, true)}, 2},
		{3, api.GaugeOp{Kind: api.GaugeMin, X: 3}, []api.Did{did(api.ActLoad, 3, 3, true)}, 3},
		{3, api.GaugeOp{Kind: api.GaugeMin, X: nan}, []api.Did{did(api.ActLoad, 3, 3, true)}, 3},
		{nan, api.GaugeOp{Kind: api.GaugeMin, X: nan}, []api.Did{did(api.ActLoad, nan, nan, true)}, nan},
		{nan, api.GaugeOp{Kind: api.GaugeMin, X: inf}, []api.Did{did(api.ActLoad, nan, nan, true), did(api.ActCas, nan, inf, true)}, inf},
		{0, api.GaugeOp{Kind: api.GaugeMin, X: minus}, []api.Did{did(api.ActLoad, 0, 0, true), did(api.ActCas, 0, minus, true)}, minus},
	} {
		g := has(x.has)
		p := begin(t, g, x.op)
		for i, want := range x.steps {
			if p.Done() || !same(p.Answer(), 0) {
				t.Errorf("%v, %v ahead of step %d: %v, %v", x.has, x.op, i, p.Done(), p.Answer())
			}
			got, ended := p.Step()
			if got != want || ended != (i == len(x.steps)-1) {
				t.Errorf("%v, %v, step %d: %v, %v", x.has, x.op, i, got, ended)
			}
		}
		for range 2 {
			if got, ended := p.Step(); got != (api.Did{}) || !ended || !p.Done() || math.Float64bits(p.Answer()) != gauges.Bits(x.answer) {
				t.Errorf("%v, %v at its end: %v, %v, %v, %v", x.has, x.op, got, ended, p.Done(), p.Answer())
			}
		}
	}
}

func TestExampleOfTurns(t *testing.T) { // example 3
	g := gauges.New()
	two := []*gauges.Pending{begin(t, g, api.GaugeOp{Kind: api.GaugeAdd, X: 1}), begin(t, g, api.GaugeOp{Kind: api.GaugeAdd, X: 1})}
	want := []api.Did{
		did(api.ActLoad, 0, 0, true), did(api.ActLoad, 0, 0, true), did(api.ActCas, 0, 1, true),
		did(api.ActCas, 1, 1, false), did(api.ActLoad, 1, 1, true), did(api.ActCas, 1, 2, true),
	}
	for i, n := range []int{0, 1, 0, 1, 1, 1} {
		if got, ended := two[n].Step(); got != want[i] || ended != (i == 2 || i == 5) {
			t.Errorf("step %d: %v, %v", i, got, ended)
		}
	}
	if two[0].Answer() != 1 || two[1].Answer() != 2 || g.Get() != 2 {
		t.Error("answers:", two[0].Answer(), two[1].Answer(), g.Get())
	}
}

// What is put back as it was is not told from what never went: bit by bit the same is the same.
func TestSwapLooksAtBitsAlone(t *testing.T) { // 3.2
	g := has(1)
	p := begin(t, g, api.GaugeOp{Kind: api.GaugeAdd, X: 1})
	p.Step()
	g.Set(7)
	g.Set(1)
	if got, ended := p.Step(); got != did(api.ActCas, 1, 2, true) || !ended {
		t.Error(got, ended)
	}
	g.Set(0)
	p = begin(t, g, api.GaugeOp{Kind: api.GaugeMax, X: 1})
	p.Step()
	g.Set(minus) // the same number, but other bits
	if got, ended := p.Step(); got != did(api.ActCas, minus, minus, false) || ended {
		t.Error(got, ended)
	}
}

func TestPlainCallsBetweenSteps(t *testing.T) { // 3.2
	g := gauges.New()
	p := begin(t, g, api.GaugeOp{Kind: api.GaugeMax, X: 5})
	p.Step()
	g.Add(8)
	if got, ended := p.Step(); got != did(api.ActCas, 8, 8, false) || ended || p.Done() || p.Answer() != 0 {
		t.Error("a swap that is not done:", got, ended)
	}
	if got, ended := p.Step(); got != did(api.ActLoad, 8, 8, true) || !ended || p.Answer() != 8 || g.Get() != 8 {
		t.Error("the load behind it:", got, ended, p.Answer())
	}
}

// shadow does an operation on a word of its own, as the document tells its actions.
type shadow struct {
	op           api.GaugeOp
	loaded, over bool
	v            float64
	answer       float64
}

func (s *shadow) step(word *uint64) (api.Did, bool) {
	x := math.Float64frombits(gauges.Bits(s.op.X))
	d := api.Did{Kind: api.ActLoad, Saw: *word, Put: *word, Ok: true}
	switch {
	case s.op.Kind == api.GaugeSet:
		d.Kind, d.Put = api.ActStore, gauges.Bits(x)
		s.over, s.answer = true, x
	case !s.loaded:
		s.loaded, s.v = true, math.Float64frombits(*word)
		s.over = s.op.Kind == api.GaugeGet || s.op.Kind == api.GaugeMax && !gauges.Above(x, s.v) ||
			s.op.Kind == api.GaugeMin && (math.IsNaN(x) || !math.IsNaN(s.v) && !gauges.Above(s.v, x))
		if s.over {
			s.answer = s.v
		}
	default:
		if s.op.Kind == api.GaugeAdd {
			x = math.Float64frombits(gauges.Bits(s.v + x))
		}
		d.Kind, d.Ok = api.ActCas, *word == gauges.Bits(s.v)
		if d.Ok {
			d.Put, s.over, s.answer = gauges.Bits(x), true, x
		}
		s.loaded = false
	}
	*word = d.Put
	return d, s.over
}

func TestAnySchedule(t *testing.T) { // 3.2
	r := rand.New(rand.NewSource(1))
	few := []float64{0, minus, 1, -1, 2, 0.5, inf, -inf, nan, odd()[2]}
	for range 3000 {
		g := has(few[r.Intn(len(few))])
		word := math.Float64bits(g.Get())
		var pending []*gauges.Pending
		var shadows []*shadow
		for range 1 + r.Intn(5) {
			op := api.GaugeOp{Kind: api.GaugeKind(1 + r.Intn(int(api.GaugeCount)-1)), X: few[r.Intn(len(few))]}
			if op.Kind == api.GaugeGet {
				op.X = 0
			}
			pending = append(pending, begin(t, g, op))
			shadows = append(shadows, &shadow{op: op})
		}
		for range 40 {
			n := r.Intn(len(pending))
			if r.Intn(10) == 0 {
				x := few[r.Intn(len(few))]
				word = gauges.Bits(g.Set(x))
			}
			if shadows[n].over {
				continue
			}
			want, over := shadows[n].step(&word)
			if got, ended := pending[n].Step(); got != want || ended != over || pending[n].Done() != over || !same(pending[n].Answer(), shadows[n].answer) {
				t.Fatalf("%v: %v, %v, want %v, %v", shadows[n].op, got, ended, want, over)
			}
		}
		if math.Float64bits(g.Get()) != word {
			t.Fatalf("the gauge has %x, want %x", math.Float64bits(g.Get()), word)
		}
	}
}

// course is what operations did by a schedule.
type course struct {
	gauge   *gauges.Gauge
	pending []*gauges.Pending
	trace   []api.Event
}

func follow(t *testing.T, start float64, ops []api.GaugeOp, schedule []int) course {
	c := course{gauge: has(start)}
	for _, op := range ops {
		c.pending = append(c.pending, begin(t, c.gauge, op))
	}
	for _, n := range schedule {
		d, _ := c.pending[n].Step()
		c.trace = append(c.trace, api.Event{Worker: n, Did: d})
	}
	return c
}

// every goes through all schedules by which the operations end, and looks at each course, under way too.
func every(t *testing.T, start float64, ops []api.GaugeOp, schedule []int, look func(c course, still bool)) {
	c := follow(t, start, ops, schedule)
	var left []int
	for n, p := range c.pending {
		if !p.Done() {
			left = append(left, n)
		}
	}
	look(c, len(left) == 0)
	for _, n := range left {
		every(t, start, ops, append(slices.Clip(schedule), n), look)
	}
}

func all(kind api.GaugeKind, xs ...float64) []api.GaugeOp {
	var l []api.GaugeOp
	for _, x := range xs {
		l = append(l, api.GaugeOp{Kind: kind, X: x})
	}
	return l
}

func TestGreatestAndLeast(t *testing.T) { // 3.5
	for _, xs := range [][]float64{{1, 3, 2}, {0, minus, minus}, {nan, -inf, 0}, {inf, nan, nan}, {odd()[1], nan, odd()[3]}, {5, 5, 4}} {
		for _, start := range []float64{-1, 4, minus, nan} {
			top, low := start, start
			for _, x := range xs {
				if gauges.Above(x, top) {
					top = x
				}
				if !math.IsNaN(x) && (math.IsNaN(low) || gauges.Above(low, x)) {
					low = x
				}
			}
			for kind, want := range map[api.GaugeKind]float64{api.GaugeMax: top, api.GaugeMin: low} {
				every(t, start, all(kind, xs...), nil, func(c course, still bool) {
					if still && math.Float64bits(c.gauge.Get()) != gauges.Bits(want) {
						t.Fatalf("kind %d of %v and %v: %v by %v", kind, start, xs, c.gauge.Get(), c.trace)
					}
				})
			}
		}
	}
}

func TestNoneIsLost(t *testing.T) { // 3.6
	for _, xs := range [][]float64{{1, 2, 4}, {0.1, 0.2, 0.3}, {1e100, 1, -1e100}, {inf, -inf, 1}, {0, 0, 1}} {
		every(t, 0.5, all(api.GaugeAdd, xs...), nil, func(c course, still bool) {
			sum := 0.5
			for _, e := range c.trace {
				if e.Did.Kind != api.ActCas || !e.Did.Ok {
					continue
				}
				sum += xs[e.Worker]
				if got := c.pending[e.Worker].Answer(); math.Float64bits(got) != gauges.Bits(sum) {
					t.Fatalf("of %v: %d answers %v, want %v, by %v", xs, e.Worker, got, sum, c.trace)
				}
			}
			if math.Float64bits(c.gauge.Get()) != gauges.Bits(sum) {
				t.Fatalf("of %v: %v, want %v, by %v", xs, c.gauge.Get(), sum, c.trace)
			}
		})
	}
}

func mixed() []api.GaugeOp {
	return []api.GaugeOp{{Kind: api.GaugeAdd, X: 1}, {Kind: api.GaugeMax, X: 3}, {Kind: api.GaugeMin, X: -1}, {Kind: api.GaugeSet, X: 2}}
}

func TestSomebodyComesOn(t *testing.T) { // 3.7
	failed := 0
	every(t, 0, mixed(), nil, func(c course, still bool) {
		if len(c.trace) == 0 {
			return
		}
		last := c.trace[len(c.trace)-1]
		if last.Did.Kind != api.ActCas || last.Did.Ok {
			return
		}
		failed++
		for i := len(c.trace) - 2; c.trace[i].Worker != last.Worker; i-- {
			if d := c.trace[i].Did; d.Ok && d.Kind != api.ActLoad && d.Put != d.Saw {
				return
			}
		}
		t.Fatal("a swap was not done, and nobody put anything:", c.trace)
	})
	if failed == 0 {
		t.Error("no swap failed")
	}
}

func TestStepsTillTheEnd(t *testing.T) { // 3.8
	longest := 0
	every(t, 0, mixed(), nil, func(c course, still bool) {
		for n, p := range c.pending {
			most := 2
			if slices.ContainsFunc(c.trace, func(e api.Event) bool { return e.Worker == n }) {
				most = 3
			}
			steps := 0
			for ; !p.Done(); steps++ {
				p.Step()
			}
			longest = max(longest, steps)
			if steps > most {
				t.Fatalf("operation %d ends in %d steps behind %v", n, steps, c.trace)
			}
		}
	})
	if longest != 3 {
		t.Error("the most steps:", longest)
	}
}

func TestPlainCallsByMany(t *testing.T) { // 3.1, 3.5, 3.6
	const workers, each = 8, 2000
	sum, top, low := gauges.New(), has(nan), has(nan)
	answers := make([][]float64, workers)
	var wait sync.WaitGroup
	for n := range workers {
		wait.Go(func() {
			for i := range each {
				answers[n] = append(answers[n], sum.Add(1))
				top.Max(float64(i*workers + n))
				low.Min(float64(-i*workers - n))
				sum.Get()
			}
		})
	}
	wait.Wait()
	if sum.Get() != workers*each || top.Get() != workers*each-1 || low.Get() != 1-workers*each {
		t.Error(sum.Get(), top.Get(), low.Get())
	}
	got := slices.Concat(answers...)
	slices.Sort(got)
	for i, x := range got {
		if x != float64(i+1) {
			t.Fatalf("answer %d: %v", i, x)
		}
	}
}

func TestStepsByMany(t *testing.T) { // 3.2
	const workers, each = 8, 500
	g := gauges.New()
	var wait sync.WaitGroup
	for range workers {
		wait.Go(func() {
			for range each {
				p, why := g.Start(api.GaugeOp{Kind: api.GaugeAdd, X: 1})
				for ended := why != api.OK; !ended; {
					_, ended = p.Step()
				}
			}
		})
	}
	wait.Wait()
	if g.Get() != workers*each {
		t.Error("something is lost:", g.Get())
	}
}
